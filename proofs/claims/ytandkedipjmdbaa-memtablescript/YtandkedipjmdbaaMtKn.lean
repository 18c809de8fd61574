/-
  Walks, not a claim by itself: MemtableKnown's function. By the verifier.
-/
import Derived.Test.YtandkedipjmdbaaMtSrt
namespace Go.Proofs.Ytandkedipjmdbaa
open Go.RowKit
section
variable {ops : Array Oper} {rest : List Oper} {o o2 : Oper} {a : Act} {w : World} {Q : Exit → Act → World → Prop}
/-- A literal of one byte and its conversion. -/
theorem wpList_lit2 (hw : Region.wanted o (yielded ops a.tmps) = true) (c : Int) (ho : o.op = .buildSlice 33 1 #[(0, .const (.int .u8 c))]) (d : Tmp) (hd : o.dst = some d) (hw2 : ∀ v, Region.wanted o2 (yielded ops (a.put o.dst v).tmps) = true) (ho2 : o2.op = .convert 33 33 (.tmp d)) (hs : d < a.tmps.size) (hc : 0 ≤ c ∧ c < 256)
    (hK : ∀ W', Below w.heap.size w W' → Txt W' [] (.slice (some ⟨w.heap.size, 0, none⟩) 1 1) (txtN 1 (fun _ => c)) → wpList Try.prog ops Q rest ((a.put o.dst (.slice (some ⟨w.heap.size, 0, none⟩) 1 1)).put o2.dst (.slice (some ⟨w.heap.size, 0, none⟩) 1 1)) W') : wpList Try.prog ops Q (o :: o2 :: rest) a w := by
  refine wpList_lit hw c ho (fun W1 h1 hb hz => ?_)
  refine wpList_conv (hw2 _) (.tmp d) ho2 w.heap.size c hc ?_ h1 (fun W2 hb2 ht => hK W2 (hb.trans (hb2.below (Nat.le_refl _) (by omega))) ht)
  simp [Act.eval, Act.put, hd, hs]
end
theorem GetPost.yes {W w' : World} {l : List Pr} {k : ByteArray} {e : Ending} (h : GetPost W l k e w') (p : Pr) (hp : fnd l k = some p) : ∃ a n C b m D, e = .returned (.tuple #[.agg (PV.mk (.slice a n C) (.slice b m D) p).cs.toArray, .int .i64 0]) ∧ PVOk w' [] ⟨.slice a n C, .slice b m D, p⟩ ∧ FrP w' W.heap.size ⟨.slice a n C, .slice b m D, p⟩ ∧ Below W.heap.size W w' := by
  obtain ⟨hb, ⟨p', key, val, hf, he, hF⟩ | ⟨hf, _⟩⟩ := h
  · rw [hp] at hf
    injection hf with hf
    subst hf
    obtain ⟨a, n, C, rfl⟩ := hF.1.sl
    obtain ⟨b, m, D, rfl⟩ := hF.2.sl
    exact ⟨a, n, C, b, m, D, he, ⟨hF.1.txt (fun _ h => by cases h), hF.2.txt (fun _ h => by cases h)⟩, hF, hb⟩
  · rw [hp] at hf; cases hf
theorem GetPost.not {W w' : World} {l : List Pr} {k : ByteArray} {e : Ending} (h : GetPost W l k e w') (hp : fnd l k = none) : e = .returned (.tuple #[.agg #[.slice none 0 0, .slice none 0 0, .bool false], .int .i64 6]) ∧ Below W.heap.size W w' := by
  obtain ⟨hb, ⟨p', key, val, hf, he, hF⟩ | ⟨hf, he⟩⟩ := h
  · rw [hp] at hf; cases hf
  · exact ⟨he, hb⟩
/-- The chapter's table behind its second row. -/
def L4 : List Pr := [⟨b1 97, b1 50, false⟩, ⟨b1 98, b1 51, false⟩, ⟨b1 99, .empty, true⟩]
theorem lay4 : layC L3 ⟨b1 98, b1 51, false⟩ = 0 ∧ layR L3 ⟨b1 98, b1 51, false⟩ = L4 := by decide
theorem FrP.offN {W W' : World} {base : Nat} {x : PV} {N : List Nat} (h : FrP W base x) (hO : Off N W W') (hN : ∀ b, b ∈ N → b < base) : FrP W' base x := ⟨h.1.off hO hN, h.2.off hO hN⟩
theorem frp_pv {W : World} {base : Nat} {x : PV} (h : FrP W base x) : PVOk W [] x := ⟨h.1.txt (fun _ h => by cases h), h.2.txt (fun _ h => by cases h)⟩
/-- What pvN is. -/
def pvN : PV := ⟨.slice none 0 0, .slice none 0 0, ⟨.empty, .empty, false⟩⟩
theorem pvN_ok (W : World) : PVOk W [] pvN := ⟨Txt.nil W [] 0, Txt.nil W [] 0⟩
theorem bt1 : btwL L4 (txtN 1 fun _ => 97) (txtN 1 fun _ => 99) = [⟨⟨#[97]⟩, ⟨#[50]⟩, false⟩, ⟨⟨#[98]⟩, ⟨#[51]⟩, false⟩] := by decide
theorem bt2 : btwL L4 (txtN 1 fun _ => 98) .empty = [⟨⟨#[98]⟩, ⟨#[51]⟩, false⟩, ⟨⟨#[99]⟩, .empty, true⟩] := by decide
theorem bt3 : btwL L4 (txtN 1 fun _ => 99) (txtN 1 fun _ => 97) = [] := by decide
theorem pe1 : layC L4 ⟨.empty, txtN 1 fun _ => 49, false⟩ = 2 ∧ layR L4 ⟨.empty, txtN 1 fun _ => 49, false⟩ = L4 := by decide
theorem pe2 : layC L4 ⟨txtN 33 fun _ => 0, .empty, false⟩ = 2 ∧ layR L4 ⟨txtN 33 fun _ => 0, .empty, false⟩ = L4 := by decide
theorem pe3 : layC L4 ⟨txtN 1 fun _ => 97, txtN 129 fun _ => 0, false⟩ = 2 ∧ layR L4 ⟨txtN 1 fun _ => 97, txtN 129 fun _ => 0, false⟩ = L4 := by
  have h : ¬ may ⟨txtN 1 fun _ => 97, txtN 129 fun _ => 0, false⟩ := fun h => by
    have := h.2.2
    simp [txtN_size] at this
  exact ⟨if_neg h, if_neg h⟩
theorem mk_below (Z : World) (n : Nat) : Below Z.heap.size Z (Z.alloc (.cells (zeros n) 5)) := (Below.refl _ _).alloc (Nat.le_refl _) _
theorem mk_txt (Z : World) (n : Nat) : Txt (Z.alloc (.cells (zeros n) 5)) [] (.slice (some ⟨Z.heap.size, 0, none⟩) n n) (txtN n fun _ => 0) := Txt.of (Arg.of ((IRow.made Z n 5).lies (fun _ _ => ⟨Int.le_refl _, by decide⟩)))
theorem co1 : cmpB ⟨#[97]⟩ ⟨#[97, 98]⟩ < 0 := by decide
theorem co2 : cmpB ⟨#[97, 98]⟩ ⟨#[98]⟩ < 0 := by decide
theorem co3 : ¬ cmpB ⟨#[98]⟩ ⟨#[97]⟩ < 0 := by decide
theorem co4 : ¬ cmpB ⟨#[97]⟩ ⟨#[97]⟩ < 0 := by decide
theorem chn3 (a b c : Pr) (h1 : cmpB a.k b.k < 0) (h2 : cmpB b.k c.k < 0) : Chn [a, b, c] := fun j p q hp hq => by
  match j with
  | 0 => injection hp with hp; injection hq with hq; rw [← hp, ← hq]; exact h1
  | 1 => injection hp with hp; injection hq with hq; rw [← hp, ← hq]; exact h2
  | j + 2 => simp at hq
theorem not_chn2 (a b : Pr) (h : ¬ cmpB a.k b.k < 0) : ¬ Chn [a, b] := fun k => h (k 0 a b rfl rfl)
theorem two_ok {W : World} {x y : PV} (hx : PVOk W [] x) (hy : PVOk W [] y) : ∀ z ∈ [x, y], PVOk W [] z := by
  intro z hz
  simp only [List.mem_cons, List.not_mem_nil, or_false] at hz
  rcases hz with rfl | rfl
  · exact hx
  · exact hy
theorem three_ok {W : World} {x y u : PV} (hx : PVOk W [] x) (hy : PVOk W [] y) (hu : PVOk W [] u) : ∀ z ∈ [x, y, u], PVOk W [] z := by
  intro z hz
  simp only [List.mem_cons, List.not_mem_nil, or_false] at hz
  rcases hz with rfl | rfl | rfl
  · exact hx
  · exact hy
  · exact hu
section
variable {ops : Array Oper} {rest : List Oper} {o : Oper} {a : Act} {w : World} {Q : Exit → Act → World → Prop}
/-- A slice of two pairs. -/
theorem wpList_two (hw : Region.wanted o (yielded ops a.tmps) = true) (u1 u2 : Operand) (ho : o.op = .buildSlice 27 2 #[(0, u1), (1, u2)]) (x y : PV) (h1 : a.eval u1 = .agg x.cs.toArray) (h2 : a.eval u2 = .agg y.cs.toArray) (hx : PVOk w [] x) (hy : PVOk w [] y)
    (hK : ∀ W', Below w.heap.size w W' → Lst W' (some ⟨w.heap.size, 0, none⟩) [x, y] → wpList Try.prog ops Q rest (a.put o.dst (.slice (some ⟨w.heap.size, 0, none⟩) 2 2)) W') : wpList Try.prog ops Q (o :: rest) a w :=
  wpList_run_w hw _ _ (bsl_run 27 47 2 _ ho 3 56 _ (pcs [x, y]).toArray [(0, .agg x.cs.toArray), (1, .agg y.cs.toArray)] under_pairs info_pair (by decide) (by decide) (by simp [h1, h2]) (by kernel_rfl)) (hK _ ((Below.refl _ _).alloc (Nat.le_refl _) _) (lst_new w [x, y] (two_ok hx hy)))
/-- A slice of three pairs. -/
theorem wpList_three (hw : Region.wanted o (yielded ops a.tmps) = true) (u1 u2 u3 : Operand) (ho : o.op = .buildSlice 27 3 #[(0, u1), (1, u2), (2, u3)]) (x y z : PV) (h1 : a.eval u1 = .agg x.cs.toArray) (h2 : a.eval u2 = .agg y.cs.toArray) (h3 : a.eval u3 = .agg z.cs.toArray) (hx : PVOk w [] x) (hy : PVOk w [] y) (hz : PVOk w [] z)
    (hK : ∀ W', Below w.heap.size w W' → Lst W' (some ⟨w.heap.size, 0, none⟩) [x, y, z] → wpList Try.prog ops Q rest (a.put o.dst (.slice (some ⟨w.heap.size, 0, none⟩) 3 3)) W') : wpList Try.prog ops Q (o :: rest) a w :=
  wpList_run_w hw _ _ (bsl_run 27 47 3 _ ho 3 56 _ (pcs [x, y, z]).toArray [(0, .agg x.cs.toArray), (1, .agg y.cs.toArray), (2, .agg z.cs.toArray)] under_pairs info_pair (by decide) (by decide) (by simp [h1, h2, h3]) (by kernel_rfl)) (hK _ ((Below.refl _ _).alloc (Nat.le_refl _) _) (lst_new w [x, y, z] (three_ok hx hy hz)))
end
set_option maxRecDepth 100000 in
set_option maxHeartbeats 8000000 in
theorem known_any (W : World) : Calls Try.prog 6 #[] W fun e w' => e = .returned (.bool true) ∧ Below W.heap.size W w' := by
  go_enter Try.func6, Try.ntmps6
  go_wp2_with (first
    | (go_at_call 28; refine (three_any W).mono ?_; rintro e Z ⟨t, v, ps, rfl, h1, h2, h3, h4, h5⟩; have T := hidIt h3; have M := hidIt h4; have G := hidIt h5; have V := hidIt (And.intro h1 h2); have NL := hidIt h3.lt; have K := hidIt (Below.refl Z.heap.size Z); have ga : Hid True := trivial; have gb : Hid True := trivial; clear h1 h2 h3 h4 h5)
    | (go_at_call 10; refine (awake_any _).mono ?_; rintro e Z ⟨rfl, hb⟩; replace T := hidIt (T.out.below hb); replace G := hidIt (G.out.trans (hb.mono G.out.size)); (try replace K := hidIt (K.out.trans (hb.mono K.out.size))); (try replace S := hidIt (S.out.below hb)); (try replace Pa := hidIt (And.intro (Pa.out.1.below hb) (And.intro (And.intro (Pa.out.2.1.1.below hb) (Pa.out.2.1.2.below hb)) Pa.out.2.2))); (try replace P2 := hidIt (And.intro (P2.out.1.below hb) (P2.out.2.below hb))); (try replace P7 := hidIt (And.intro (P7.out.1.below hb) (P7.out.2.below hb))); clear hb)
    | (have _q := S; clear _q; refine wpList_lit2 rfl _ rfl _ rfl (fun _ => rfl) rfl (of_decide_eq_true rfl) (by decide) ?_; intro Z hb ht; replace T := hidIt (T.out.below hb); replace G := hidIt (G.out.trans (hb.mono G.out.size)); (try replace K := hidIt (K.out.trans (hb.mono K.out.size))); (try replace S := hidIt (S.out.below hb)); (try replace Pa := hidIt (And.intro (Pa.out.1.below hb) (And.intro (And.intro (Pa.out.2.1.1.below hb) (Pa.out.2.1.2.below hb)) Pa.out.2.2))); (try replace P2 := hidIt (And.intro (P2.out.1.below hb) (P2.out.2.below hb))); (try replace P7 := hidIt (And.intro (P7.out.1.below hb) (P7.out.2.below hb))); have S2 := hidIt ht; clear hb ht)
    | (refine wpList_lit2 rfl _ rfl _ rfl (fun _ => rfl) rfl (of_decide_eq_true rfl) (by decide) ?_; intro Z hb ht; replace T := hidIt (T.out.below hb); replace G := hidIt (G.out.trans (hb.mono G.out.size)); (try replace K := hidIt (K.out.trans (hb.mono K.out.size))); (try replace S := hidIt (S.out.below hb)); (try replace Pa := hidIt (And.intro (Pa.out.1.below hb) (And.intro (And.intro (Pa.out.2.1.1.below hb) (Pa.out.2.1.2.below hb)) Pa.out.2.2))); (try replace P2 := hidIt (And.intro (P2.out.1.below hb) (P2.out.2.below hb))); (try replace P7 := hidIt (And.intro (P7.out.1.below hb) (P7.out.2.below hb))); have S := hidIt ht; clear hb ht)
    | (go_at_call 22; have _q := ga; clear ga _q; have hk0 := hidIt K.out.size; refine (tget_ok T.out S.out).mono ?_; intro e Z hq; obtain ⟨a1, n1, C1, a2, n2, C2, rfl, _, hF, hb⟩ := hq.yes ⟨b1 99, .empty, true⟩ (by rw [M.out]; decide); clear hq; replace T := hidIt (T.out.below hb); replace G := hidIt (G.out.trans (hb.mono G.out.size)); (try replace K := hidIt (K.out.trans (hb.mono K.out.size))); (try replace S := hidIt (S.out.below hb)); (try replace Pa := hidIt (And.intro (Pa.out.1.below hb) (And.intro (And.intro (Pa.out.2.1.1.below hb) (Pa.out.2.1.2.below hb)) Pa.out.2.2))); (try replace P2 := hidIt (And.intro (P2.out.1.below hb) (P2.out.2.below hb))); (try replace P7 := hidIt (And.intro (P7.out.1.below hb) (P7.out.2.below hb))); have X := hidIt (And.intro hF hk0.out); clear hF hb S hk0)
    | (go_at_call 22; have _q := gb; clear gb _q; refine (tget_ok T.out S.out).mono ?_; intro e Z hq; obtain ⟨rfl, hb⟩ := hq.not (by rw [M.out]; decide); clear hq; replace T := hidIt (T.out.below hb); replace G := hidIt (G.out.trans (hb.mono G.out.size)); (try replace K := hidIt (K.out.trans (hb.mono K.out.size))); (try replace S := hidIt (S.out.below hb)); (try replace Pa := hidIt (And.intro (Pa.out.1.below hb) (And.intro (And.intro (Pa.out.2.1.1.below hb) (Pa.out.2.1.2.below hb)) Pa.out.2.2))); (try replace P2 := hidIt (And.intro (P2.out.1.below hb) (P2.out.2.below hb))); (try replace P7 := hidIt (And.intro (P7.out.1.below hb) (P7.out.2.below hb))); clear hb S)
    | (go_at_call 22; refine (tget_ok T.out S.out).mono ?_; intro e Z hq; obtain ⟨a3, n3, C3, a4, n4, C4, rfl, hx, _, hb⟩ := hq.yes ⟨b1 98, b1 51, false⟩ (by rw [M.out]; decide); clear hq; replace T := hidIt (T.out.below hb); replace G := hidIt (G.out.trans (hb.mono G.out.size)); (try replace K := hidIt (K.out.trans (hb.mono K.out.size))); (try replace S := hidIt (S.out.below hb)); (try replace Pa := hidIt (And.intro (Pa.out.1.below hb) (And.intro (And.intro (Pa.out.2.1.1.below hb) (Pa.out.2.1.2.below hb)) Pa.out.2.2))); (try replace P2 := hidIt (And.intro (P2.out.1.below hb) (P2.out.2.below hb))); (try replace P7 := hidIt (And.intro (P7.out.1.below hb) (P7.out.2.below hb))); have Y := hidIt hx; clear hx hb S)
    | (have _q := X; clear _q; obtain ⟨B2, hk⟩ : ∃ B, Z.heap.size = B := ⟨_, rfl⟩; refine wpList_alloc_rec rfl 47 rfl _ B2 hk pair_zero ?_; intro Z1 R1 hb1 hz1; have RR := hidIt R1; have BB := hidIt (And.intro (show Below Z.heap.size Z Z1 by rw [hk]; exact hb1) (And.intro hz1 hk.symm)); clear R1 hb1 hz1 hk)
    | (have _q := Y; clear _q; obtain ⟨B7, hk⟩ : ∃ B, Z.heap.size = B := ⟨_, rfl⟩; refine wpList_alloc_rec rfl 47 rfl _ B7 hk pair_zero ?_; intro Z1 R1 hb1 hz1; have RR := hidIt R1; have BB := hidIt (And.intro (show Below Z.heap.size Z Z1 by rw [hk]; exact hb1) (And.intro hz1 hk.symm)); clear R1 hb1 hz1 hk)
    | (obtain ⟨B4, hk⟩ : ∃ B, Z.heap.size = B := ⟨_, rfl⟩; refine wpList_alloc_rec rfl 47 rfl _ B4 hk pair_zero ?_; intro Z1 R1 hb1 hz1; have RR := hidIt R1; have BB := hidIt (And.intro (show Below Z.heap.size Z Z1 by rw [hk]; exact hb1) (And.intro hz1 hk.symm)); clear R1 hb1 hz1 hk)
    | (have _q := X; clear _q; have hk1 := hidIt K.out.size; refine wpList_store_rec rfl 47 (.tmp 2) (.tmp 24) rfl _ 0 _ (PV.mk (.slice a1 n1 C1) (.slice a2 n2 C2) ⟨b1 99, .empty, true⟩).cs rfl rfl RR.out rfl pair_size (by intro u hu; simp only [PV.cs, List.mem_cons, List.not_mem_nil, or_false] at hu; rcases hu with rfl | rfl | rfl <;> rfl) ?_; intro Z R2 hb2; have hb := BB.out.1.trans (hb2.below (Nat.le_of_eq BB.out.2.2.symm) (by have := BB.out.2.1; have := BB.out.2.2; omega)); replace T := hidIt (T.out.below hb); replace G := hidIt (G.out.trans (hb.mono G.out.size)); (try replace K := hidIt (K.out.trans (hb.mono K.out.size))); (try replace S := hidIt (S.out.below hb)); (try replace Pa := hidIt (And.intro (Pa.out.1.below hb) (And.intro (And.intro (Pa.out.2.1.1.below hb) (Pa.out.2.1.2.below hb)) Pa.out.2.2))); (try replace P2 := hidIt (And.intro (P2.out.1.below hb) (P2.out.2.below hb))); (try replace P7 := hidIt (And.intro (P7.out.1.below hb) (P7.out.2.below hb))); have Pa := hidIt (And.intro R2 (And.intro (And.intro (X.out.1.1.below hb) (X.out.1.2.below hb)) (And.intro X.out.2 (Nat.le_trans hk1.out (Nat.le_of_eq BB.out.2.2.symm))))); clear R2 hb2 hb RR BB X hk1)
    | (have _q := Y; clear _q; refine wpList_store_rec rfl 47 (.tmp 7) (.tmp 44) rfl _ 0 _ (PV.mk (.slice a3 n3 C3) (.slice a4 n4 C4) ⟨b1 98, b1 51, false⟩).cs rfl rfl RR.out rfl pair_size (by intro u hu; simp only [PV.cs, List.mem_cons, List.not_mem_nil, or_false] at hu; rcases hu with rfl | rfl | rfl <;> rfl) ?_; intro Z R2 hb2; have hb := BB.out.1.trans (hb2.below (Nat.le_of_eq BB.out.2.2.symm) (by have := BB.out.2.1; have := BB.out.2.2; omega)); have hy := Y.out.below hb; replace T := hidIt (T.out.below hb); replace G := hidIt (G.out.trans (hb.mono G.out.size)); (try replace K := hidIt (K.out.trans (hb.mono K.out.size))); (try replace S := hidIt (S.out.below hb)); (try replace Pa := hidIt (And.intro (Pa.out.1.below hb) (And.intro (And.intro (Pa.out.2.1.1.below hb) (Pa.out.2.1.2.below hb)) Pa.out.2.2))); (try replace P2 := hidIt (And.intro (P2.out.1.below hb) (P2.out.2.below hb))); (try replace P7 := hidIt (And.intro (P7.out.1.below hb) (P7.out.2.below hb))); have P7 := hidIt (And.intro R2 hy); clear R2 hb2 hb hy RR BB Y)
    | (refine wpList_store_rec rfl 47 (.tmp 4) (.tmp 31) rfl _ 0 _ pvN.cs rfl rfl RR.out rfl pair_size (pvN_ok W).one ?_; intro Z R2 hb2; have hb := BB.out.1.trans (hb2.below (Nat.le_of_eq BB.out.2.2.symm) (by have := BB.out.2.1; have := BB.out.2.2; omega)); replace T := hidIt (T.out.below hb); replace G := hidIt (G.out.trans (hb.mono G.out.size)); (try replace K := hidIt (K.out.trans (hb.mono K.out.size))); (try replace S := hidIt (S.out.below hb)); (try replace Pa := hidIt (And.intro (Pa.out.1.below hb) (And.intro (And.intro (Pa.out.2.1.1.below hb) (Pa.out.2.1.2.below hb)) Pa.out.2.2))); (try replace P2 := hidIt (And.intro (P2.out.1.below hb) (P2.out.2.below hb))); (try replace P7 := hidIt (And.intro (P7.out.1.below hb) (P7.out.2.below hb))); clear R2 hb2 hb RR BB)
    | (go_at_call 24; go_loud (have _q := K; clear _q; refine (tput_ok T.out S.out S2.out).mono ?_; rintro e Z ⟨v', ps', rfl, h1, h2, h3, h4⟩; rw [M.out] at h2 ⊢; rw [show layC L3 ⟨txtN 1 fun _ => 98, txtN 1 fun _ => 51, false⟩ = 0 from lay4.1]; have P2 := hidIt (And.intro (Pa.out.1.off h3 (fun q => by have := NL.out _ q; have := Pa.out.2.2.2; omega)) (frp_pv (FrP.offN (x := PV.mk (.slice a1 n1 C1) (.slice a2 n2 C2) ⟨b1 99, .empty, true⟩) Pa.out.2.1 h3 (fun b hb => Nat.lt_of_lt_of_le (NL.out b hb) Pa.out.2.2.1)))); clear T; have T := hidIt h1; replace M : Hid (ps'.map PV.p = L4) := hidIt (h2.trans lay4.2); have G0 := hidIt G.out.size; replace G := hidIt (G.out.trans (h3.below (tab_new V.out.2 V.out.1) G.out.size)); replace V : Hid (W.heap.size ≤ t ∧ ∀ g, v'.ownBlock = some g → W.heap.size ≤ g) := hidIt ⟨V.out.1, fun g hg => by rcases h4.1 g hg with q | q; exact V.out.2 g q; exact Nat.le_trans G0.out q⟩; clear h1 h2 h3 h4 S S2 K Pa NL)))
  refine wp_region_noPanic ?_
  refine wp_region_held_drew (S := fun w' => w'.rangeAt B2 0 (PV.mk (.slice a1 n1 C1) (.slice a2 n2 C2) ⟨b1 99, .empty, true⟩).cs ∧ w'.rangeAt B7 0 (PV.mk (.slice a3 n3 C3) (.slice a4 n4 C4) ⟨b1 98, b1 51, false⟩).cs) (by kernel_rfl) ?_ (fun hHeld => ?_)
  · exact ⟨P2.out.1.1, P7.out.1.1⟩
  refine take_at (i := 0) (v := ?_) (some 46) rfl rfl (by kernel_rfl) (by kernel_rfl) (by kernel_rfl) (fun _ _ _ h => h) (Or.inl ⟨by rfl, ?_⟩) (by assumption) ?_
  rotate_left
  · (intro w hSw; (try dsimp only at hSw); go_simp; try with_reducible rfl)
  simp only [Act.put, List.setIfInBounds_toArray, List.set_cons_zero, List.set_cons_succ]
  refine take_at (i := 1) (v := ?_) (some 47) rfl rfl (by kernel_rfl) (by kernel_rfl) (by kernel_rfl) (fun _ _ _ h => h) (Or.inl ⟨by rfl, ?_⟩) (by assumption) ?_
  rotate_left
  · (intro w hSw; (try dsimp only at hSw); go_simp; try with_reducible rfl)
  simp only [Act.put, List.setIfInBounds_toArray, List.set_cons_zero, List.set_cons_succ]
  refine take_at (i := 2) (v := ?_) (some 48) rfl rfl (by kernel_rfl) (by kernel_rfl) (by kernel_rfl) (fun _ _ _ h => h) (Or.inl ⟨by rfl, ?_⟩) (by assumption) ?_
  rotate_left
  · (intro w hSw; (try dsimp only at hSw); go_simp; try with_reducible rfl)
  simp only [Act.put, List.setIfInBounds_toArray, List.set_cons_zero, List.set_cons_succ]
  refine take_at (i := 3) (v := _) (some 49) rfl rfl (by kernel_rfl) (by kernel_rfl) (by kernel_rfl) (fun _ _ _ h => h) (yieldsIf_load_mid (by rfl) _ _ rfl _ _ rfl _ _ (fun w h => h.1) Try.underlying47 rfl pair_size) (by assumption) ?_
  simp only [Act.put, List.setIfInBounds_toArray, List.set_cons_zero, List.set_cons_succ]
  have bD : Below Z.heap.size Z Z.drew := (Below.refl _ _).drew
  replace T := hidIt (T.out.below bD)
  replace G := hidIt (G.out.trans (bD.mono G.out.size))
  replace P2 := hidIt (And.intro (P2.out.1.below bD) (P2.out.2.below bD))
  replace P7 := hidIt (And.intro (P7.out.1.below bD) (P7.out.2.below bD))
  clear bD
  generalize Z.drew = Z0 at *
  refine call_at (i := 4) (some 50) 29 _ _ rfl rfl rfl (by rfl) (by kernel_rfl) #[.string ⟨#[99]⟩] rfl Try.func29 (by kernel_rfl) (by kernel_rfl) ?_
  refine (gone_any Z0 ⟨#[99]⟩).mono ?_
  rintro e Z1 ⟨k1, k2, k3, k4, k5, k6, rfl, hp, hb⟩
  have U1 := hidIt hp
  replace T := hidIt (T.out.below hb)
  replace G := hidIt (G.out.trans (hb.mono G.out.size))
  replace P2 := hidIt (And.intro (P2.out.1.below hb) (P2.out.2.below hb))
  replace P7 := hidIt (And.intro (P7.out.1.below hb) (P7.out.2.below hb))
  clear hp hb
  refine ⟨_, rfl, ⟨P2.out.1.1, P7.out.1.1⟩, fun hHeld => ?_⟩
  simp only [Act.put, List.setIfInBounds_toArray, List.set_cons_zero, List.set_cons_succ]
  refine call_at (i := 5) (some 51) 23 _ _ rfl rfl rfl (by rfl) (by kernel_rfl) #[.agg (PV.mk (.slice a1 n1 C1) (.slice a2 n2 C2) ⟨b1 99, .empty, true⟩).cs.toArray, .agg (PV.mk (.slice k1 k2 k3) (.slice k4 k5 k6) ⟨⟨#[99]⟩, .empty, true⟩).cs.toArray] rfl Try.func23 (by kernel_rfl) (by kernel_rfl) ?_
  refine (samePair_any (x := (PV.mk (.slice a1 n1 C1) (.slice a2 n2 C2) ⟨b1 99, .empty, true⟩)) P2.out.2 U1.out).mono ?_
  rintro e Z2 ⟨rfl, hb⟩
  rw [decide_eq_true (show (PV.mk (.slice a1 n1 C1) (.slice a2 n2 C2) ⟨b1 99, .empty, true⟩).p = (PV.mk (.slice k1 k2 k3) (.slice k4 k5 k6) ⟨⟨#[99]⟩, .empty, true⟩).p from rfl)]
  replace T := hidIt (T.out.below hb)
  replace G := hidIt (G.out.trans (hb.mono G.out.size))
  replace P2 := hidIt (And.intro (P2.out.1.below hb) (P2.out.2.below hb))
  replace P7 := hidIt (And.intro (P7.out.1.below hb) (P7.out.2.below hb))
  clear hb U1
  refine ⟨_, rfl, ⟨P2.out.1.1, P7.out.1.1⟩, fun hHeld => ?_⟩
  simp only [Act.put, List.setIfInBounds_toArray, List.set_cons_zero, List.set_cons_succ]
  refine take_at (i := 6) (v := ?_) (some 52) rfl rfl (by kernel_rfl) (by kernel_rfl) (by kernel_rfl) (fun _ _ _ h => h) (Or.inl ⟨by rfl, ?_⟩) (by assumption) ?_
  rotate_left
  · (intro w hSw; (try dsimp only at hSw); go_simp; try with_reducible rfl)
  simp only [Act.put, List.setIfInBounds_toArray, List.set_cons_zero, List.set_cons_succ]
  refine take_at (i := 7) (v := ?_) (some 53) rfl rfl (by kernel_rfl) (by kernel_rfl) (by kernel_rfl) (fun _ _ _ h => h) (Or.inl ⟨by rfl, ?_⟩) (by assumption) ?_
  rotate_left
  · (intro w hSw; (try dsimp only at hSw); go_simp; try with_reducible rfl)
  simp only [Act.put, List.setIfInBounds_toArray, List.set_cons_zero, List.set_cons_succ]
  refine take_at (i := 8) (v := ?_) (some 54) rfl rfl (by kernel_rfl) (by kernel_rfl) (by kernel_rfl) (fun _ _ _ h => h) (Or.inl ⟨by rfl, ?_⟩) (by assumption) ?_
  rotate_left
  · (intro w hSw; (try dsimp only at hSw); go_simp; try with_reducible rfl)
  simp only [Act.put, List.setIfInBounds_toArray, List.set_cons_zero, List.set_cons_succ]
  refine take_at (i := 9) (v := ?_) (some 55) rfl rfl (by kernel_rfl) (by kernel_rfl) (by kernel_rfl) (fun _ _ _ h => h) (Or.inl ⟨by rfl, ?_⟩) (by assumption) ?_
  rotate_left
  · (intro w hSw; (try dsimp only at hSw); go_simp; try with_reducible rfl)
  simp only [Act.put, List.setIfInBounds_toArray, List.set_cons_zero, List.set_cons_succ]
  refine take_at (i := 10) (v := ?_) (some 56) rfl rfl (by kernel_rfl) (by kernel_rfl) (by kernel_rfl) (fun _ _ _ h => h) (Or.inl ⟨by rfl, ?_⟩) (by assumption) ?_
  rotate_left
  · (intro w hSw; (try dsimp only at hSw); go_simp; try with_reducible rfl)
  simp only [Act.put, List.setIfInBounds_toArray, List.set_cons_zero, List.set_cons_succ]
  refine take_at (i := 11) (v := ?_) (some 57) rfl rfl (by kernel_rfl) (by kernel_rfl) (by kernel_rfl) (fun _ _ _ h => h) (Or.inl ⟨by rfl, ?_⟩) (by assumption) ?_
  rotate_left
  · (intro w hSw; (try dsimp only at hSw); go_simp; try with_reducible rfl)
  simp only [Act.put, List.setIfInBounds_toArray, List.set_cons_zero, List.set_cons_succ]
  refine take_at (i := 12) (v := ?_) (some 58) rfl rfl (by kernel_rfl) (by kernel_rfl) (by kernel_rfl) (fun _ _ _ h => h) (Or.inl ⟨by rfl, ?_⟩) (by assumption) ?_
  rotate_left
  · (intro w hSw; (try dsimp only at hSw); go_simp; try with_reducible rfl)
  simp only [Act.put, List.setIfInBounds_toArray, List.set_cons_zero, List.set_cons_succ]
  refine take_at (i := 13) (v := ?_) (some 59) rfl rfl (by kernel_rfl) (by kernel_rfl) (by kernel_rfl) (fun _ _ _ h => h) (Or.inl ⟨by rfl, ?_⟩) (by assumption) ?_
  rotate_left
  · (intro w hSw; (try dsimp only at hSw); go_simp; try with_reducible rfl)
  simp only [Act.put, List.setIfInBounds_toArray, List.set_cons_zero, List.set_cons_succ]
  refine take_at (i := 14) (v := ?_) (some 60) rfl rfl (by kernel_rfl) (by kernel_rfl) (by kernel_rfl) (fun _ _ _ h => h) (Or.inl ⟨by rfl, ?_⟩) (by assumption) ?_
  rotate_left
  · (intro w hSw; (try dsimp only at hSw); go_simp; try with_reducible rfl)
  simp only [Act.put, List.setIfInBounds_toArray, List.set_cons_zero, List.set_cons_succ]
  refine take_at (i := 15) (v := ?_) (some 61) rfl rfl (by kernel_rfl) (by kernel_rfl) (by kernel_rfl) (fun _ _ _ h => h) (Or.inl ⟨by rfl, ?_⟩) (by assumption) ?_
  rotate_left
  · (intro w hSw; (try dsimp only at hSw); go_simp; try with_reducible rfl)
  simp only [Act.put, List.setIfInBounds_toArray, List.set_cons_zero, List.set_cons_succ]
  refine take_at (i := 16) (v := ?_) (some 62) rfl rfl (by kernel_rfl) (by kernel_rfl) (by kernel_rfl) (fun _ _ _ h => h) (Or.inl ⟨by rfl, ?_⟩) (by assumption) ?_
  rotate_left
  · (intro w hSw; (try dsimp only at hSw); go_simp; try with_reducible rfl)
  simp only [Act.put, List.setIfInBounds_toArray, List.set_cons_zero, List.set_cons_succ]
  refine take_at (i := 17) (v := ?_) (some 63) rfl rfl (by kernel_rfl) (by kernel_rfl) (by kernel_rfl) (fun _ _ _ h => h) (Or.inl ⟨by rfl, ?_⟩) (by assumption) ?_
  rotate_left
  · (intro w hSw; (try dsimp only at hSw); go_simp; try with_reducible rfl)
  simp only [Act.put, List.setIfInBounds_toArray, List.set_cons_zero, List.set_cons_succ]
  refine take_at (i := 18) (v := ?_) (some 64) rfl rfl (by kernel_rfl) (by kernel_rfl) (by kernel_rfl) (fun _ _ _ h => h) (Or.inl ⟨by rfl, ?_⟩) (by assumption) ?_
  rotate_left
  · (intro w hSw; (try dsimp only at hSw); go_simp; try with_reducible rfl)
  simp only [Act.put, List.setIfInBounds_toArray, List.set_cons_zero, List.set_cons_succ]
  refine take_at (i := 19) (v := ?_) (some 65) rfl rfl (by kernel_rfl) (by kernel_rfl) (by kernel_rfl) (fun _ _ _ h => h) (Or.inl ⟨by rfl, ?_⟩) (by assumption) ?_
  rotate_left
  · (intro w hSw; (try dsimp only at hSw); go_simp; try with_reducible rfl)
  simp only [Act.put, List.setIfInBounds_toArray, List.set_cons_zero, List.set_cons_succ]
  refine take_at (i := 20) (v := _) (some 66) rfl rfl (by kernel_rfl) (by kernel_rfl) (by kernel_rfl) (fun _ _ _ h => h) (yieldsIf_load_mid (by rfl) _ _ rfl _ _ rfl _ _ (fun w h => h.2) Try.underlying47 rfl pair_size) (by assumption) ?_
  simp only [Act.put, List.setIfInBounds_toArray, List.set_cons_zero, List.set_cons_succ]
  refine call_at (i := 21) (some 67) 30 _ _ rfl rfl rfl (by rfl) (by kernel_rfl) #[.string ⟨#[98]⟩, .string ⟨#[51]⟩] rfl Try.func30 (by kernel_rfl) (by kernel_rfl) ?_
  refine (is_any Z2 ⟨#[98]⟩ ⟨#[51]⟩).mono ?_
  rintro e Z3 ⟨m1, m2, m3, m4, m5, m6, rfl, hp, hb⟩
  have U2 := hidIt hp
  replace T := hidIt (T.out.below hb)
  replace G := hidIt (G.out.trans (hb.mono G.out.size))
  replace P2 := hidIt (And.intro (P2.out.1.below hb) (P2.out.2.below hb))
  replace P7 := hidIt (And.intro (P7.out.1.below hb) (P7.out.2.below hb))
  clear hp hb
  refine ⟨_, rfl, ⟨P2.out.1.1, P7.out.1.1⟩, fun hHeld => ?_⟩
  simp only [Act.put, List.setIfInBounds_toArray, List.set_cons_zero, List.set_cons_succ]
  refine call_at (i := 22) (some 68) 23 _ _ rfl rfl rfl (by rfl) (by kernel_rfl) #[.agg (PV.mk (.slice a3 n3 C3) (.slice a4 n4 C4) ⟨b1 98, b1 51, false⟩).cs.toArray, .agg (PV.mk (.slice m1 m2 m3) (.slice m4 m5 m6) ⟨⟨#[98]⟩, ⟨#[51]⟩, false⟩).cs.toArray] rfl Try.func23 (by kernel_rfl) (by kernel_rfl) ?_
  refine (samePair_any (x := (PV.mk (.slice a3 n3 C3) (.slice a4 n4 C4) ⟨b1 98, b1 51, false⟩)) P7.out.2 U2.out).mono ?_
  rintro e Z4 ⟨rfl, hb⟩
  rw [decide_eq_true (show (PV.mk (.slice a3 n3 C3) (.slice a4 n4 C4) ⟨b1 98, b1 51, false⟩).p = (PV.mk (.slice m1 m2 m3) (.slice m4 m5 m6) ⟨⟨#[98]⟩, ⟨#[51]⟩, false⟩).p from rfl)]
  replace T := hidIt (T.out.below hb)
  replace G := hidIt (G.out.trans (hb.mono G.out.size))
  replace P2 := hidIt (And.intro (P2.out.1.below hb) (P2.out.2.below hb))
  replace P7 := hidIt (And.intro (P7.out.1.below hb) (P7.out.2.below hb))
  clear hb U2
  refine ⟨_, rfl, ⟨P2.out.1.1, P7.out.1.1⟩, fun hHeld => ?_⟩
  simp only [Act.put, List.setIfInBounds_toArray, List.set_cons_zero, List.set_cons_succ]
  refine take_at (i := 23) (v := ?_) (some 69) rfl rfl (by kernel_rfl) (by kernel_rfl) (by kernel_rfl) (fun _ _ _ h => h) (Or.inl ⟨by rfl, ?_⟩) (by assumption) ?_
  rotate_left
  · (intro w hSw; (try dsimp only at hSw); go_simp; try with_reducible rfl)
  simp only [Act.put, List.setIfInBounds_toArray, List.set_cons_zero, List.set_cons_succ]
  refine take_at (i := 24) (v := ?_) (some 9) rfl rfl (by kernel_rfl) (by kernel_rfl) (by kernel_rfl) (fun _ _ _ h => h) (Or.inl ⟨by rfl, ?_⟩) (by assumption) ?_
  rotate_left
  · (intro w hSw; (try dsimp only at hSw); go_simp; try with_reducible rfl)
  simp only [Act.put, List.setIfInBounds_toArray, List.set_cons_zero, List.set_cons_succ]
  refine wpAnyH_done (by kernel_rfl) ?_ _
  refine NoPanic.normal ?_
  clear hHeld P2 P7
  obtain ⟨Z, hZ⟩ : ∃ Z, Z = Z4 := ⟨_, rfl⟩
  subst hZ
  have na : Hid True := trivial
  have nb : Hid True := trivial
  have pa : Hid True := trivial
  have pb : Hid True := trivial
  have sa : Hid True := trivial
  have sb : Hid True := trivial
  have mk33 := fun w => make_bytes 33 (by omega) w
  have mk129 := fun w => make_bytes 129 (by omega) w
  rw [show ((33 : Nat) : Int) = 33 from rfl] at mk33
  rw [show ((129 : Nat) : Int) = 129 from rfl] at mk129
  go_wp2_with (first
    | (have _q := S; clear _q; refine wpList_lit2 rfl _ rfl _ rfl (fun _ => rfl) rfl (of_decide_eq_true rfl) (by decide) ?_; intro Z hb ht; replace T := hidIt (T.out.below hb); replace G := hidIt (G.out.trans (hb.mono G.out.size)); (try replace S := hidIt (S.out.below hb)); (try replace L := hidIt (L.out.below hb)); (try replace Y1 := hidIt (Y1.out.below hb)); (try replace Y2 := hidIt (Y2.out.below hb)); (try replace Y3 := hidIt (Y3.out.below hb)); (try replace LB := hidIt (LB.out.below hb)); have S2 := hidIt ht; clear hb ht)
    | (refine wpList_lit2 rfl _ rfl _ rfl (fun _ => rfl) rfl (of_decide_eq_true rfl) (by decide) ?_; intro Z hb ht; replace T := hidIt (T.out.below hb); replace G := hidIt (G.out.trans (hb.mono G.out.size)); (try replace S := hidIt (S.out.below hb)); (try replace L := hidIt (L.out.below hb)); (try replace Y1 := hidIt (Y1.out.below hb)); (try replace Y2 := hidIt (Y2.out.below hb)); (try replace Y3 := hidIt (Y3.out.below hb)); (try replace LB := hidIt (LB.out.below hb)); have S := hidIt ht; clear hb ht)
    | (go_at_call 26; have _q := na; clear na _q; refine (btw_any T.out S.out S2.out).mono ?_; rintro e Z ⟨lv, os, rfl, h1, h2, h3, h4, hb⟩; rw [M.out] at h4; replace h4 := h4.trans bt1; obtain ⟨la, lc, rfl, hL⟩ := BtwPost.lst h1 (fun x hx => (h3 x hx).2); have hn : os.length = 2 := (by have := congrArg List.length h4; simpa using this); rw [hn]; replace T := hidIt (T.out.below hb); replace G := hidIt (G.out.trans (hb.mono G.out.size)); (try replace S := hidIt (S.out.below hb)); (try replace L := hidIt (L.out.below hb)); (try replace Y1 := hidIt (Y1.out.below hb)); (try replace Y2 := hidIt (Y2.out.below hb)); (try replace Y3 := hidIt (Y3.out.below hb)); (try replace LB := hidIt (LB.out.below hb)); have L := hidIt hL; have LM := hidIt h4; have LN := hidIt hn; clear h1 h2 h3 h4 hb hL hn; (try clear S); (try clear S2))
    | (go_at_call 26; have _q := nb; clear nb _q; refine (btw_any T.out S.out (Txt.nil _ [] 0)).mono ?_; rintro e Z ⟨lv, os, rfl, h1, h2, h3, h4, hb⟩; rw [M.out] at h4; replace h4 := h4.trans bt2; obtain ⟨la, lc, rfl, hL⟩ := BtwPost.lst h1 (fun x hx => (h3 x hx).2); have hn : os.length = 2 := (by have := congrArg List.length h4; simpa using this); rw [hn]; replace T := hidIt (T.out.below hb); replace G := hidIt (G.out.trans (hb.mono G.out.size)); (try replace S := hidIt (S.out.below hb)); (try replace L := hidIt (L.out.below hb)); (try replace Y1 := hidIt (Y1.out.below hb)); (try replace Y2 := hidIt (Y2.out.below hb)); (try replace Y3 := hidIt (Y3.out.below hb)); (try replace LB := hidIt (LB.out.below hb)); have L := hidIt hL; have LM := hidIt h4; have LN := hidIt hn; clear h1 h2 h3 h4 hb hL hn; (try clear S); (try clear S2))
    | (go_at_call 26; refine (btw_any T.out S.out S2.out).mono ?_; rintro e Z ⟨lv, os, rfl, h1, h2, h3, h4, hb⟩; rw [M.out] at h4; replace h4 := h4.trans bt3; obtain ⟨la, lc, rfl, hL⟩ := BtwPost.lst h1 (fun x hx => (h3 x hx).2); have hn : os.length = 0 := (by have := congrArg List.length h4; simpa using this); rw [hn]; replace T := hidIt (T.out.below hb); replace G := hidIt (G.out.trans (hb.mono G.out.size)); (try replace S := hidIt (S.out.below hb)); (try replace L := hidIt (L.out.below hb)); (try replace Y1 := hidIt (Y1.out.below hb)); (try replace Y2 := hidIt (Y2.out.below hb)); (try replace Y3 := hidIt (Y3.out.below hb)); (try replace LB := hidIt (LB.out.below hb)); have L := hidIt hL; have LM := hidIt h4; have LN := hidIt hn; clear h1 h2 h3 h4 hb hL hn; (try clear S); (try clear S2))
    | (go_at_call 30; have _q := Y2; clear _q; refine (is_any _ _ _).mono ?_; rintro e Z ⟨r1, r2, r3, r4, r5, r6, rfl, hp, hb⟩; replace T := hidIt (T.out.below hb); replace G := hidIt (G.out.trans (hb.mono G.out.size)); (try replace S := hidIt (S.out.below hb)); (try replace L := hidIt (L.out.below hb)); (try replace Y1 := hidIt (Y1.out.below hb)); (try replace Y2 := hidIt (Y2.out.below hb)); (try replace Y3 := hidIt (Y3.out.below hb)); (try replace LB := hidIt (LB.out.below hb)); have Y3 := hidIt hp; clear hp hb)
    | (go_at_call 30; have _q := Y1; clear _q; refine (is_any _ _ _).mono ?_; rintro e Z ⟨q1, q2, q3, q4, q5, q6, rfl, hp, hb⟩; replace T := hidIt (T.out.below hb); replace G := hidIt (G.out.trans (hb.mono G.out.size)); (try replace S := hidIt (S.out.below hb)); (try replace L := hidIt (L.out.below hb)); (try replace Y1 := hidIt (Y1.out.below hb)); (try replace Y2 := hidIt (Y2.out.below hb)); (try replace Y3 := hidIt (Y3.out.below hb)); (try replace LB := hidIt (LB.out.below hb)); have Y2 := hidIt hp; clear hp hb)
    | (go_at_call 30; refine (is_any _ _ _).mono ?_; rintro e Z ⟨p1, p2, p3, p4, p5, p6, rfl, hp, hb⟩; replace T := hidIt (T.out.below hb); replace G := hidIt (G.out.trans (hb.mono G.out.size)); (try replace S := hidIt (S.out.below hb)); (try replace L := hidIt (L.out.below hb)); (try replace Y1 := hidIt (Y1.out.below hb)); (try replace Y2 := hidIt (Y2.out.below hb)); (try replace Y3 := hidIt (Y3.out.below hb)); (try replace LB := hidIt (LB.out.below hb)); have Y1 := hidIt hp; clear hp hb)
    | (go_at_call 29; refine (gone_any _ _).mono ?_; rintro e Z ⟨q1, q2, q3, q4, q5, q6, rfl, hp, hb⟩; replace T := hidIt (T.out.below hb); replace G := hidIt (G.out.trans (hb.mono G.out.size)); (try replace S := hidIt (S.out.below hb)); (try replace L := hidIt (L.out.below hb)); (try replace Y1 := hidIt (Y1.out.below hb)); (try replace Y2 := hidIt (Y2.out.below hb)); (try replace Y3 := hidIt (Y3.out.below hb)); (try replace LB := hidIt (LB.out.below hb)); have Y2 := hidIt hp; clear hp hb)
    | (have _q := Y3; clear _q; refine wpList_three rfl _ _ _ rfl _ _ _ rfl rfl rfl Y1.out Y2.out Y3.out ?_; intro Z hb hl; replace T := hidIt (T.out.below hb); replace G := hidIt (G.out.trans (hb.mono G.out.size)); (try replace S := hidIt (S.out.below hb)); (try replace L := hidIt (L.out.below hb)); (try replace Y1 := hidIt (Y1.out.below hb)); (try replace Y2 := hidIt (Y2.out.below hb)); (try replace Y3 := hidIt (Y3.out.below hb)); (try replace LB := hidIt (LB.out.below hb)); have LB := hidIt hl; clear hb hl Y1 Y2 Y3)
    | (refine wpList_two rfl _ _ rfl _ _ rfl rfl Y1.out Y2.out ?_; intro Z hb hl; replace T := hidIt (T.out.below hb); replace G := hidIt (G.out.trans (hb.mono G.out.size)); (try replace S := hidIt (S.out.below hb)); (try replace L := hidIt (L.out.below hb)); (try replace Y1 := hidIt (Y1.out.below hb)); (try replace Y2 := hidIt (Y2.out.below hb)); (try replace Y3 := hidIt (Y3.out.below hb)); (try replace LB := hidIt (LB.out.below hb)); have LB := hidIt hl; clear hb hl Y1 Y2)
    | (go_at_call 14; refine (samePairs_any 2 2 _ _ LN.out rfl L.out LB.out (by omega)).mono ?_; rintro e Z ⟨h1, hb⟩; have h2 : e = .returned (.bool true) := (by rw [h1, LM.out]; simp); subst h2; clear h1 L LB LM LN; replace T := hidIt (T.out.below hb); replace G := hidIt (G.out.trans (hb.mono G.out.size)); (try replace S := hidIt (S.out.below hb)); (try replace L := hidIt (L.out.below hb)); (try replace Y1 := hidIt (Y1.out.below hb)); (try replace Y2 := hidIt (Y2.out.below hb)); (try replace Y3 := hidIt (Y3.out.below hb)); (try replace LB := hidIt (LB.out.below hb)); clear hb)
    | (go_at_call 24; have _q := pa; clear pa _q; have G1 := G.out; have LC := pe1.1; have LR := pe1.2; refine (tput_ok T.out (Txt.nil _ [] 0) S.out).mono ?_; rintro e Z ⟨v', ps', rfl, h1, h2, h3, h4⟩; rw [M.out] at h2 ⊢; rw [LC]; clear T; have T := hidIt h1; replace M : Hid (ps'.map PV.p = L4) := hidIt (h2.trans LR); replace G := hidIt (G1.trans (h3.below (tab_new V.out.2 V.out.1) G1.size)); replace V : Hid (W.heap.size ≤ t ∧ ∀ g, v'.ownBlock = some g → W.heap.size ≤ g) := hidIt ⟨V.out.1, fun g hg => by rcases h4.1 g hg with q | q; exact V.out.2 g q; exact Nat.le_trans G1.size q⟩; clear h1 h2 h3 h4 LC LR G1; (try clear S))
    | (go_at_call 24; have _q := pb; clear pb _q; have G1 := G.out.trans ((mk_below Z 33).mono G.out.size); have LC := pe2.1; have LR := pe2.2; refine (tput_ok (T.out.below (mk_below Z 33)) (mk_txt Z 33) (Txt.nil _ [] 0)).mono ?_; rintro e Z ⟨v', ps', rfl, h1, h2, h3, h4⟩; rw [M.out] at h2 ⊢; rw [LC]; clear T; have T := hidIt h1; replace M : Hid (ps'.map PV.p = L4) := hidIt (h2.trans LR); replace G := hidIt (G1.trans (h3.below (tab_new V.out.2 V.out.1) G1.size)); replace V : Hid (W.heap.size ≤ t ∧ ∀ g, v'.ownBlock = some g → W.heap.size ≤ g) := hidIt ⟨V.out.1, fun g hg => by rcases h4.1 g hg with q | q; exact V.out.2 g q; exact Nat.le_trans G1.size q⟩; clear h1 h2 h3 h4 LC LR G1; (try clear S))
    | (go_at_call 24; have G1 := G.out.trans ((mk_below Z 129).mono G.out.size); have LC := pe3.1; have LR := pe3.2; refine (tput_ok (T.out.below (mk_below Z 129)) (S.out.below (mk_below Z 129)) (mk_txt Z 129)).mono ?_; rintro e Z ⟨v', ps', rfl, h1, h2, h3, h4⟩; rw [M.out] at h2 ⊢; rw [LC]; clear T; have T := hidIt h1; replace M : Hid (ps'.map PV.p = L4) := hidIt (h2.trans LR); replace G := hidIt (G1.trans (h3.below (tab_new V.out.2 V.out.1) G1.size)); replace V : Hid (W.heap.size ≤ t ∧ ∀ g, v'.ownBlock = some g → W.heap.size ≤ g) := hidIt ⟨V.out.1, fun g hg => by rcases h4.1 g hg with q | q; exact V.out.2 g q; exact Nat.le_trans G1.size q⟩; clear h1 h2 h3 h4 LC LR G1; (try clear S))
    | (go_at_call 20; have _q := sa; clear sa _q; refine (tsorted_any 3 _ rfl LB.out (by omega)).mono ?_; rintro e Z ⟨bb, rfl, hiff, hb⟩; obtain rfl : bb = true := hiff.2 (chn3 _ _ _ co1 co2); clear hiff LB; replace T := hidIt (T.out.below hb); replace G := hidIt (G.out.trans (hb.mono G.out.size)); (try replace S := hidIt (S.out.below hb)); (try replace L := hidIt (L.out.below hb)); (try replace Y1 := hidIt (Y1.out.below hb)); (try replace Y2 := hidIt (Y2.out.below hb)); (try replace Y3 := hidIt (Y3.out.below hb)); (try replace LB := hidIt (LB.out.below hb)); clear hb)
    | (go_at_call 20; have _q := sb; clear sb _q; refine (tsorted_any 2 _ rfl LB.out (by omega)).mono ?_; rintro e Z ⟨bb, rfl, hiff, hb⟩; obtain rfl : bb = false := (by cases bb with | false => rfl | true => exact absurd (hiff.1 rfl) (not_chn2 _ _ co3)); clear hiff LB; replace T := hidIt (T.out.below hb); replace G := hidIt (G.out.trans (hb.mono G.out.size)); (try replace S := hidIt (S.out.below hb)); (try replace L := hidIt (L.out.below hb)); (try replace Y1 := hidIt (Y1.out.below hb)); (try replace Y2 := hidIt (Y2.out.below hb)); (try replace Y3 := hidIt (Y3.out.below hb)); (try replace LB := hidIt (LB.out.below hb)); clear hb)
    | (go_at_call 20; refine (tsorted_any 2 _ rfl LB.out (by omega)).mono ?_; rintro e Z ⟨bb, rfl, hiff, hb⟩; obtain rfl : bb = false := (by cases bb with | false => rfl | true => exact absurd (hiff.1 rfl) (not_chn2 _ _ co4)); clear hiff LB; replace T := hidIt (T.out.below hb); replace G := hidIt (G.out.trans (hb.mono G.out.size)); (try replace S := hidIt (S.out.below hb)); (try replace L := hidIt (L.out.below hb)); (try replace Y1 := hidIt (Y1.out.below hb)); (try replace Y2 := hidIt (Y2.out.below hb)); (try replace Y3 := hidIt (Y3.out.below hb)); (try replace LB := hidIt (LB.out.below hb)); clear hb))
  exact bodyPost_ret (v := .bool true) (by simp [results, Try.results6, go_sem]) rfl ⟨rfl, G.out⟩
end Go.Proofs.Ytandkedipjmdbaa
