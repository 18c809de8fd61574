/-
  Walks, not a claim by itself: the pairs that count, gone through. By the verifier.
-/
import Derived.Test.YtgpafmgncolnmaaMgPu
import Derived.Test.YtgpafmgncolnmaaMgIt
import Derived.Test.YtgpafmgncolnmaaMgA
namespace Go.Proofs.Ytgpafmgncolnmaa
open Go.RowKit Go.Shelf
attribute [local go_sem] Oper.semAt_some
theorem more_any {W0 W : World} {hb pb : Nat} {V : Nat → LV} {hs : List Nat} (h : HS W0 W hb pb V hs) : Calls Try.prog 46 #[.pointer (some ⟨hb, 0, none⟩)] W fun e w' => e = .returned (.bool (decide (0 < hs.length))) ∧ w' = W := by
  obtain ⟨a, cap, c0, _, _⟩ := h.sl
  clear h
  generalize hs.length = n at *
  go_enter Try.func46, Try.ntmps46
  go_wp2
  go_ret
  exact ⟨rfl, rfl⟩
theorem equal_any {W : World} {N M : List Nat} {s s' : Value} {t t' : ByteArray} (h : Txt W N s t) (h' : Txt W M s' t') : Calls Try.prog 37 #[s, s'] W fun e w' => e = .returned (.bool (decide (t = t'))) ∧ w' = W := by
  obtain ⟨a, C, f, rfl, hA, ht, _⟩ := h
  obtain ⟨a', C', f', rfl, hA', ht', _⟩ := h'
  have c1 := conv_arg W a t.size C f hA
  have c2 := conv_arg W a' t'.size C' f' hA'
  rw [ht] at c1
  rw [ht'] at c2
  clear hA hA' ht ht'
  generalize t.size = n at *
  generalize t'.size = m at *
  go_enter Try.func37, Try.ntmps37
  go_wp2
  rw [bytes_beq]
  go_ret
  exact ⟨rfl, rfl⟩
theorem Rec19.same {W W' : World} {n o : Nat} {cs : List Value} (h : Rec19 W n o cs) (e : W'.heap[n]? = W.heap[n]?) (hs : W.heap.size ≤ W'.heap.size) : Rec19 W' n o cs :=
  ⟨fun j v hj => (World.cell?_of_block (w := W) (a := ⟨n, o + j, none⟩) e).trans (h.1 j v hj), fun j hj => by
    rw [World.cell?_of_block (w := W) (a := ⟨n, o + j, none⟩) e, World.frozen?_of_block (w := W) (a := ⟨n, o + j, none⟩) e]; exact h.2.1 j hj, Nat.lt_of_lt_of_le h.2.2 hs⟩
theorem HpAt.frm {hb pb : Nat} {V : Nat → LV} {hs bs : List Nat} (h1 : hb ∈ bs) (h2 : pb ∈ bs) : Frm bs (fun W => HpAt W hb pb V hs) := fun W W' h e hsz => by
  obtain ⟨ne, ⟨a, cap, bx, hc, ha⟩, rw⟩ := h
  exact ⟨ne, ⟨a, cap, bx.same (e hb h1) hsz, hc, ha⟩, fun h0 => (rw h0).same (e pb h2) hsz⟩
/-- What holds of the lists at the head of the outer loop. -/
structure CtI (U0 : World) (L hb pb : Nat) (os : List PV) (j : Nat) (V : Nat → LV) (hs : List Nat) (W : World) : Prop where
  hh : HS U0 W hb pb V hs
  mg : Mg V L hs
  fvs : ∀ k, fv (rest V L) k = fv (os.drop j) k
  jl : j ≤ os.length
def ctR (U0 : World) (L hb pb : Nat) (os : List PV) (J : Nat → List Nat → World → Prop) (n : Nat) (wr : World) : Prop := ∃ j bs V hs, CtI U0 L hb pb os j V hs wr ∧ J j bs wr ∧ ((hb ∈ bs ∧ pb ∈ bs) ∨ hs = []) ∧ (rest V L).length = n
/-- What holds at the head of the inner loop. -/
structure CtN (U0 : World) (L hb pb : Nat) (os : List PV) (J : Nat → List Nat → World → Prop) (j : Nat) (bs : List Nat) (x : PV) (P n0 n : Nat) (V : Nat → LV) (hs : List Nat) (W : World) : Prop where
  hh : HS U0 W hb pb V hs
  mg : Mg V L hs
  f1 : ∀ k, k ≠ x.p.k → fv (rest V L) k = fv (os.drop j) k
  f2 : ∀ y ∈ rest V L, ¬ cmpB y.p.k x.p.k < 0
  jj : J j bs W
  rp : Rec19 W P 0 x.cs
  np : P ≠ hb ∧ P ≠ pb
  ln : (rest V L).length = n
  lt : n < n0
theorem rest_nil {V : Nat → LV} {L : Nat} (h : Mg V L []) : rest V L = [] := by
  cases e : rest V L with
  | nil => rfl
  | cons a r =>
    obtain ⟨t, ht, hm⟩ := mem_rest.1 (show a ∈ rest V L by rw [e]; simp)
    have := (h.mem t).2 ⟨ht, fun q => by rw [q] at hm; cases hm⟩
    cases this
theorem ct_end {U0 W : World} {L hb pb j : Nat} {os : List PV} {V : Nat → LV} (h : CtI U0 L hb pb os j V [] W) : j = os.length := by
  have h1 := h.jl
  have h2 : os.drop j = [] := by
    cases e : os.drop j with
    | nil => rfl
    | cons a r =>
      have := h.fvs a.p.k
      rw [rest_nil h.mg, e, fv_cons_eq rfl] at this
      cases this
  have := List.drop_eq_nil_iff.1 h2
  omega
set_option maxRecDepth 100000 in
set_option maxHeartbeats 4000000 in
theorem counting1_in (l Ba : Nat) (U0 : World) (A : Option Addr) (ls : List LV) (L C : Nat) (hL : ls.length = L) (hLs : Lsts U0 A ls) (hf : L ≤ 32) (hsr : ∀ x ∈ ls, SrtV x.ps) (J : Nat → List Nat → World → Prop) (Jx : World → Prop)
    (hM : ∀ k bs W, J k bs W → Below U0.heap.size U0 W ∧ W.cell? ⟨Ba, 0, none⟩ = some (.slice A L C)) (hO : ∀ k bs W W', J k bs W → Off bs W W' → J k bs W') (hN : ∀ k bs nb W W', J k bs W → Below W.heap.size W W' → (∀ b ∈ nb, W.heap.size ≤ b ∧ b < W'.heap.size) → J k (nb ++ bs) W')
    (hY : ∀ (k : Nat) (bs : List Nat) (G : World → Prop) (x : PV) (W : World), (mrgP (allP ls))[k]? = some x → Frm bs G → J k bs W → G W → YieldAt Fence.wide 3 Try.prog l #[.agg x.cs.toArray] W fun e W' => (e = .returned (.bool true) ∧ J (k + 1) bs W' ∧ G W') ∨ (e = .returned (.bool false) ∧ Jx W'))
    (W : World) (h0 : J 0 [] W) :
    CallsIn Fence.wide 4 Try.prog 44 #[.func (.yield l) #[] #[], .pointer (some ⟨Ba, 0, none⟩)] W fun e W' => (∃ v, e = .returned v) ∧ ((∃ bs, J (mrgP (allP ls)).length bs W') ∨ Jx W') := by
  have M0 := hM 0 [] W h0
  have HO := hidIt (heapOf_any (W := W) L C hL (hLs.below M0.1) hf)
  have c1 := M0.2
  have H0 := hidIt h0
  have HB := hidIt hO
  have HN := hidIt hN
  have HM := hidIt hM
  have HY := hidIt hY
  have SR := hidIt (And.intro hL (And.intro hsr (And.intro hLs M0.1)))
  clear M0 h0 hO hN hM hY hL hsr hLs
  refine callsIn_of_wp Try.func44 rfl trivial ?_ rfl
  simp only [Try.ntmps44, List.size_toArray, List.length_cons, List.length_nil, Nat.reduceAdd, Nat.reduceSub, Array.replicate_succ, Array.replicate_zero, List.push_toArray, List.append_toArray, List.nil_append, List.cons_append]
  gi_wp2
  refine ⟨trivial, ?_⟩
  refine CallsIn.mono ((callsIn_wide (n := _)).2 HO.out) ?_
  rintro e W1 ⟨hb, pb, hs, rfl, hS, hF, hnd, hmem⟩
  have S0 : Hid (∃ n, ctR U0 L hb pb (mrgP (allP ls)) J n W1) := by
    obtain ⟨q1, q2, q3, q4⟩ := SR.out
    have hU : HS U0 W1 hb pb (V0 ls) hs := ⟨q4.trans (hS.old.mono q4.size), hS.hp, Nat.le_trans q4.size hS.lh, Nat.le_trans q4.size hS.lp, fun t ht => by
      obtain ⟨x, h1, h2⟩ := (hmem t).1 ht
      exact ⟨by rw [V0_at h1]; exact q3.1 x (List.mem_of_getElem? h1), (hS.oks t ht).2⟩, hS.few⟩
    have hG : Mg (V0 ls) L hs := ⟨hF, hnd, fun t => by
      rw [hmem t]
      constructor
      · rintro ⟨x, h1, h2⟩
        have := (List.getElem?_eq_some_iff.1 h1).1
        rw [V0_at h1]
        exact ⟨by omega, h2⟩
      · rintro ⟨h1, h2⟩
        have h3 := List.getElem?_eq_getElem (show t < ls.length by omega)
        exact ⟨_, h3, by rw [← V0_at h3]; exact h2⟩, fun t ht => by
      have h3 := List.getElem?_eq_getElem (show t < ls.length by omega)
      rw [V0_at h3]
      exact q2 _ (List.mem_of_getElem? h3)⟩
    have hI : CtI U0 L hb pb (mrgP (allP ls)) 0 (V0 ls) hs W1 := ⟨hU, hG, fun k => by rw [List.drop_zero, fv_mrgP, ← q1, rest_V0], Nat.zero_le _⟩
    by_cases e : hs = []
    · exact ⟨_, 0, [], V0 ls, hs, hI, HB.out 0 [] W W1 H0.out (Off.of hS.old), .inr e, rfl⟩
    · have l1 : hb < W1.heap.size := by obtain ⟨_, _, bx, _⟩ := hS.hp.bx; exact bx.2.2
      have l2 := (hS.hp.rw (List.length_pos_iff.2 e)).2.2
      exact ⟨_, 0, [hb, pb] ++ [], V0 ls, hs, hI, HN.out 0 [] [hb, pb] W W1 H0.out hS.old (fun b hb' => by
        simp at hb'
        rcases hb' with rfl | rfl
        · exact ⟨hS.lh, l1⟩
        · exact ⟨hS.lp, l2⟩), .inl ⟨by simp, by simp⟩, rfl⟩
  clear hS hF hnd hmem HO H0 c1
  gi_wp2
  gi_loopw [] (fun wr => ∃ n, ctR U0 L hb pb (mrgP (allP ls)) J n wr) (fun wr => lst fun n => ctR U0 L hb pb (mrgP (allP ls)) J n wr)
  case atStart => exact S0.out
  case round =>
    clear S0
    clear hs
    obtain ⟨n0, hn0⟩ : ∃ n0, n0 = lst fun n => ctR U0 L hb pb (mrgP (allP ls)) J n wr := ⟨_, rfl⟩
    have hc := (lst_spec hrel).1
    rw [← hn0] at hc
    have N0 := hidIt hn0
    clear hrel hn0
    obtain ⟨j, bs, V, hs, hI, hJ, hbs, hln⟩ := hc
    have II := hidIt hI
    have JJ := hidIt hJ
    have BS := hidIt hbs
    have LN := hidIt hln
    clear hI hJ hbs hln
    rename World => Wr
    gi_wp2
    refine ⟨trivial, ?_⟩
    refine CallsIn.mono ((callsIn_wide (n := _)).2 (more_any II.out.hh)) ?_
    rintro e w1 ⟨rfl, hw⟩
    rw [hw]
    clear hw
    cases hs with
    | nil =>
      have JE : Hid (∃ bs, J (mrgP (allP ls)).length bs Wr) := hidIt ⟨bs, by rw [← ct_end II.out]; exact JJ.out⟩
      gi_wp2
      go_end0
      exact ⟨⟨_, rfl⟩, .inl JE.out⟩
    | cons s q =>
      have TK := hidIt (take_any II.out.hh II.out.mg.nd II.out.mg.hf)
      have e1 : decide (0 < (s :: q).length) = true := by simp
      rw [e1]
      clear e1
      gi_wp2
      refine ⟨trivial, ?_⟩
      refine CallsIn.mono ((callsIn_wide (n := _)).2 TK.out) ?_
      rintro e W2 ⟨x, r, hx, rfl, hp, hs', hF, hS, hnd, hmem, hOff⟩
      have BB := hidIt (BS.out.resolve_right (by simp))
      have J2 := hidIt (HB.out j bs Wr W2 JJ.out (hOff.mono (by intro b hb'; simp at hb'; rcases hb' with rfl | rfl; exact BB.out.1; exact BB.out.2)))
      have T2 := hidIt (II.out.mg.take hx hF hnd hmem)
      have OX := hidIt (os_at II.out.mg hx (srt_mrgP _) II.out.fvs)
      have FX := hidIt (II.out.mg.front hx).1
      have P2 : Hid (PVOk U0 [] x) := hidIt hp
      have LB : Hid (hb < W2.heap.size ∧ pb < W2.heap.size) := hidIt (by
        obtain ⟨_, _, bx, _⟩ := II.out.hh.hp.bx
        exact ⟨Nat.lt_of_lt_of_le bx.2.2 hOff.size, Nat.lt_of_lt_of_le (II.out.hh.hp.rw (by simp)).2.2 hOff.size⟩)
      have S2 := hidIt hS
      have F2 := hidIt II.out.fvs
      have JL := hidIt II.out.jl
      obtain ⟨V', hV'⟩ : ∃ V', V' = updV V s (V s).tl := ⟨_, rfl⟩
      rw [← hV'] at T2 S2
      clear hx hp hF hS hnd hmem hOff TK hV' II JJ BS
      gi_wp2_with (first
        | (refine fen_alloc rfl 32 rfl _ W2.heap.size rfl pair_zero ?_; intro Y1 R1 B1 y1; have P1 := hidIt R1; have E1 := hidIt (And.intro B1 y1); clear R1 B1 y1)
        | (refine fen_store rfl 32 (.tmp 4) (.tmp 10) rfl W2.heap.size 0 _ x.cs rfl rfl P1.out rfl pair_size P2.out.one ?_; intro W3 R3 B3; have E3 := hidIt (E1.out.1.trans (B3.below (Nat.le_refl _) (by have := E1.out.2; omega))); have R3' := hidIt R3; clear R3 B3))
      have I3 : Hid (∃ n, ∃ V hs, CtN U0 L hb pb (mrgP (allP ls)) J j bs x W2.heap.size n0 n V hs W3) := hidIt (by
        have lb := LB.out
        have ln := LN.out
        have l2 := T2.out.2.2.2
        exact ⟨_, V', hs', S2.out.up E3.out, T2.out.1, fun k hk => by rw [T2.out.2.1 k hk, F2.out k], fun y hy => (by have := FX.out y (T2.out.2.2.1 y hy); omega), HB.out j bs W2 W3 J2.out (Off.of E3.out), R3'.out, by omega, rfl, by omega⟩)
      clear S2 T2 E1 P1 R3' J2 F2 FX
      simp only [Act.put, List.setIfInBounds_toArray, List.set_cons_zero, List.set_cons_succ]
      gi_loopw [] (fun wr => ∃ n, ∃ V hs, CtN U0 L hb pb (mrgP (allP ls)) J j bs x W2.heap.size n0 n V hs wr) (fun wr => lst fun n => ∃ V hs, CtN U0 L hb pb (mrgP (allP ls)) J j bs x W2.heap.size n0 n V hs wr)
      case atStart => exact I3.out
      case round =>
        clear I3
        obtain ⟨n1, hn1⟩ : ∃ n1, n1 = lst fun n => ∃ V hs, CtN U0 L hb pb (mrgP (allP ls)) J j bs x W2.heap.size n0 n V hs wr := ⟨_, rfl⟩
        have hc := (lst_spec hrel).1
        rw [← hn1] at hc
        have N1 := hidIt hn1
        clear hrel hn1
        obtain ⟨V1, hs1, hI⟩ := hc
        have II := hidIt hI
        clear hI
        rename World => Wi
        have MR := hidIt (more_any (II.out.hh.drew))
        have k0 : Wi.cell? ⟨W2.heap.size, 0, none⟩ = some x.k := (II.out.rp.cel 0 _ rfl).1
        gi_wp2
        cases hs1 with
        | nil =>
          refine region_wd (S := fun w' => True) (by kernel_rfl) (by kernel_rfl) trivial (fun hHeld => ?_)
          refine take_at (i := 0) (v := ?_) (some 11) rfl rfl (by kernel_rfl) (by kernel_rfl) (by kernel_rfl) (fun _ _ _ h => by cases h.1) (Or.inl ⟨by rfl, ?_⟩) (by assumption) ?_
          rotate_left
          · (intro w hSw; (try dsimp only at hSw); go_simp; try with_reducible rfl)
          simp only [Act.put, List.setIfInBounds_toArray, List.set_cons_zero, List.set_cons_succ]
          refine call_at (i := 1) (some 12) 46 _ _ rfl rfl rfl (by rfl) (by kernel_rfl) #[.pointer (some ⟨hb, 0, none⟩)] rfl Try.func46 (by kernel_rfl) (by kernel_rfl) ?_
          refine MR.out.mono ?_
          rintro e w1 ⟨rfl, hw⟩
          rw [hw]
          clear hw
          refine ⟨_, rfl, trivial, fun hHeld => ?_⟩
          simp only [Act.put, List.setIfInBounds_toArray, List.set_cons_zero, List.set_cons_succ]
          refine take_at (i := 2) (v := ?_) (some 13) rfl rfl (by kernel_rfl) (by kernel_rfl) (by kernel_rfl) (fun _ _ _ h => by cases h.1) (Or.inl ⟨by rfl, ?_⟩) (by assumption) ?_
          rotate_left
          · (intro w hSw; (try dsimp only at hSw); go_simp; try with_reducible rfl)
          simp only [Act.put, List.setIfInBounds_toArray, List.set_cons_zero, List.set_cons_succ]
          refine take_at (i := 3) (v := undef) (some 14) rfl rfl (by kernel_rfl) (by kernel_rfl) (by kernel_rfl) (fun _ _ _ h => by cases h.1) (Or.inr ⟨by rfl, rfl⟩) (by assumption) ?_
          simp only [Act.put, List.setIfInBounds_toArray, List.set_cons_zero, List.set_cons_succ]
          refine take_at (i := 4) (v := undef) (some 15) rfl rfl (by kernel_rfl) (by kernel_rfl) (by kernel_rfl) (fun _ _ _ h => by cases h.1) (Or.inr ⟨by rfl, rfl⟩) (by assumption) ?_
          simp only [Act.put, List.setIfInBounds_toArray, List.set_cons_zero, List.set_cons_succ]
          refine take_at (i := 5) (v := undef) (some 16) rfl rfl (by kernel_rfl) (by kernel_rfl) (by kernel_rfl) (fun _ _ _ h => by cases h.1) (Or.inr ⟨by rfl, rfl⟩) (by assumption) ?_
          simp only [Act.put, List.setIfInBounds_toArray, List.set_cons_zero, List.set_cons_succ]
          refine take_at (i := 6) (v := undef) (some 17) rfl rfl (by kernel_rfl) (by kernel_rfl) (by kernel_rfl) (fun _ _ _ h => by cases h.1) (Or.inr ⟨by rfl, rfl⟩) (by assumption) ?_
          simp only [Act.put, List.setIfInBounds_toArray, List.set_cons_zero, List.set_cons_succ]
          refine take_at (i := 7) (v := undef) (some 18) rfl rfl (by kernel_rfl) (by kernel_rfl) (by kernel_rfl) (fun _ _ _ h => by cases h.1) (Or.inr ⟨by rfl, rfl⟩) (by assumption) ?_
          simp only [Act.put, List.setIfInBounds_toArray, List.set_cons_zero, List.set_cons_succ]
          refine take_at (i := 8) (v := undef) (some 19) rfl rfl (by kernel_rfl) (by kernel_rfl) (by kernel_rfl) (fun _ _ _ h => by cases h.1) (Or.inr ⟨by rfl, rfl⟩) (by assumption) ?_
          simp only [Act.put, List.setIfInBounds_toArray, List.set_cons_zero, List.set_cons_succ]
          refine take_at (i := 9) (v := undef) (some 20) rfl rfl (by kernel_rfl) (by kernel_rfl) (by kernel_rfl) (fun _ _ _ h => by cases h.1) (Or.inr ⟨by rfl, rfl⟩) (by assumption) ?_
          simp only [Act.put, List.setIfInBounds_toArray, List.set_cons_zero, List.set_cons_succ]
          refine take_at (i := 10) (v := undef) (some 21) rfl rfl (by kernel_rfl) (by kernel_rfl) (by kernel_rfl) (fun _ _ _ h => by cases h.1) (Or.inr ⟨by rfl, rfl⟩) (by assumption) ?_
          simp only [Act.put, List.setIfInBounds_toArray, List.set_cons_zero, List.set_cons_succ]
          refine take_at (i := 11) (v := undef) (some 22) rfl rfl (by kernel_rfl) (by kernel_rfl) (by kernel_rfl) (fun _ _ _ h => by cases h.1) (Or.inr ⟨by rfl, rfl⟩) (by assumption) ?_
          simp only [Act.put, List.setIfInBounds_toArray, List.set_cons_zero, List.set_cons_succ]
          refine take_at (i := 12) (v := undef) (some 23) rfl rfl (by kernel_rfl) (by kernel_rfl) (by kernel_rfl) (fun _ _ _ h => by cases h.1) (Or.inr ⟨by rfl, rfl⟩) (by assumption) ?_
          simp only [Act.put, List.setIfInBounds_toArray, List.set_cons_zero, List.set_cons_succ]
          refine take_at (i := 13) (v := ?_) (some 24) rfl rfl (by kernel_rfl) (by kernel_rfl) (by kernel_rfl) (fun _ _ _ h => by cases h.1) (Or.inl ⟨by rfl, ?_⟩) (by assumption) ?_
          rotate_left
          · (intro w hSw; (try dsimp only at hSw); go_simp; try with_reducible rfl)
          simp only [Act.put, List.setIfInBounds_toArray, List.set_cons_zero, List.set_cons_succ]
          refine wpAnyH_done (by kernel_rfl) ?_ _
          refine ⟨rfl, ?_⟩
          have B3 := hidIt ((Below.refl Wi.heap.size Wi).drew)
          have H2 : Hid (∀ y ∈ rest V1 L, cmpB x.p.k y.p.k < 0) := hidIt (fun y hy => by rw [rest_nil II.out.mg] at hy; cases hy)
          clear hHeld k0 MR
          obtain ⟨W3, hW3⟩ : ∃ W3, W3 = Wi.drew := ⟨_, rfl⟩
          rw [← hW3] at B3 ⊢
          clear hW3

          have JD := hidIt (HB.out j bs Wi W3 II.out.jj (Off.of B3.out))
          have HD := hidIt (II.out.hh.up B3.out)
          have RD := II.out.rp.below (B3.out.mono (Nat.le_refl _))
          have NX := hidIt (os_next (srt_mrgP _) OX.out II.out.f1 H2.out)
          obtain ⟨fn, tmps, assign, body, hy, hR⟩ := HY.out j bs (fun W => HpAt W hb pb V1 ([])) x W3 OX.out (HpAt.frm BB.out.1 BB.out.2) JD.out HD.out.hp
          have hy' : (Instr.yield l #[.agg #[x.k, x.v, .bool x.p.g]]).run Try.prog W3 = .ok (.round l fn tmps assign body) W3 := hy
          have d0 : W3.cell? ⟨W2.heap.size, 0, none⟩ = some x.k := (RD.cel 0 _ rfl).1
          have d1 : W3.cell? ⟨W2.heap.size, 1, none⟩ = some x.v := (RD.cel 1 _ rfl).1
          have d2 : W3.cell? ⟨W2.heap.size, 2, none⟩ = some (.bool x.p.g) := (RD.cel 2 _ rfl).1
          clear hy RD
          gi_wp2
          refine hR.mono ?_
          rintro e W5 (⟨rfl, hJ5, hG5⟩ | ⟨rfl, hJx5⟩)
          · have REL : Hid (ctR U0 L hb pb (mrgP (allP ls)) J n1 W5) := hidIt ⟨j + 1, bs, V1, [], ⟨⟨(HM.out _ _ _ hJ5).1, hG5, II.out.hh.lh, II.out.hh.lp, II.out.hh.oks, II.out.hh.few⟩, II.out.mg, NX.out, (List.getElem?_eq_some_iff.1 OX.out).1⟩, hJ5, .inl BB.out, II.out.ln⟩
            have ME : Hid ((lst fun n => ctR U0 L hb pb (mrgP (allP ls)) J n W5) < lst fun n => ctR U0 L hb pb (mrgP (allP ls)) J n Wr) := hidIt (by
              rw [← N0.out]
              exact Nat.lt_of_le_of_lt ((lst_spec ⟨n1, REL.out⟩).2 n1 REL.out) II.out.lt)
            clear hJ5 hG5 hR d0 d1 d2 hy'
            gi_wp2
            go_roundw
            case rel => exact ⟨n1, REL.out⟩
            case measure => exact ME.out
          · gi_wp2
            refine bodyPost_ret (results_none rfl _ _ _) rfl ?_
            exact ⟨⟨_, rfl⟩, .inr hJx5⟩
        | cons s1 q1 =>
          obtain ⟨q0, cap, c0, _, hq⟩ := II.out.hh.drew.sl
          obtain rfl := hq (by simp)
          obtain ⟨r1, l1, y, r', ey⟩ := II.out.hh.drew.pl (i := 0) (t := s1) rfl
          have L1 := hidIt (And.intro l1 ey)
          have n1' : (0 : Int) < (((s1 :: q1).length : Nat) : Int) := by simp
          obtain ⟨n, hn⟩ : ∃ n, n = (s1 :: q1).length := ⟨_, rfl⟩
          rw [← hn] at c0 n1'
          have n2' : 0 < n := by rw [hn]; simp
          have r1' : Wi.drew.rangeAt pb 0 (plV (V1 s1) s1) := r1
          have TY := hidIt (((II.out.hh.oks s1 (by simp)).1.front ey).choose_spec.choose_spec.2.2.2)
          have k0' : Wi.drew.cell? ⟨W2.heap.size, 0, none⟩ = some x.k := k0
          clear hq l1 ey hn r1 k0
          refine region_wd (S := fun w' => w'.cell? ⟨hb, 0, none⟩ = some (.slice (some ⟨pb, 0, none⟩) n cap) ∧ w'.rangeAt pb 0 (plV (V1 s1) s1) ∧ w'.cell? ⟨W2.heap.size, 0, none⟩ = some x.k) (by kernel_rfl) (by kernel_rfl) ⟨c0, r1', k0'⟩ (fun hHeld => ?_)
          refine take_at (i := 0) (v := ?_) (some 11) rfl rfl (by kernel_rfl) (by kernel_rfl) (by kernel_rfl) (fun _ _ _ h => by cases h.1) (Or.inl ⟨by rfl, ?_⟩) (by assumption) ?_
          rotate_left
          · (intro w hSw; (try dsimp only at hSw); go_simp; try with_reducible rfl)
          simp only [Act.put, List.setIfInBounds_toArray, List.set_cons_zero, List.set_cons_succ]
          refine call_at (i := 1) (some 12) 46 _ _ rfl rfl rfl (by rfl) (by kernel_rfl) #[.pointer (some ⟨hb, 0, none⟩)] rfl Try.func46 (by kernel_rfl) (by kernel_rfl) ?_
          refine MR.out.mono ?_
          rintro e w1 ⟨rfl, hw⟩
          rw [hw]
          clear hw
          have e1 : decide (0 < (s1 :: q1).length) = true := by simp
          rw [e1]
          clear e1
          refine ⟨_, rfl, ⟨c0, r1', k0'⟩, fun hHeld => ?_⟩
          simp only [Act.put, List.setIfInBounds_toArray, List.set_cons_zero, List.set_cons_succ]
          refine take_at (i := 2) (v := ?_) (some 13) rfl rfl (by kernel_rfl) (by kernel_rfl) (by kernel_rfl) (fun _ _ _ h => by cases h.1) (Or.inl ⟨by rfl, ?_⟩) (by assumption) ?_
          rotate_left
          · (intro w hSw; (try dsimp only at hSw); go_simp; try with_reducible rfl)
          simp only [Act.put, List.setIfInBounds_toArray, List.set_cons_zero, List.set_cons_succ]
          refine take_at (i := 10) (v := ?_) (some 21) rfl rfl (by kernel_rfl) (by kernel_rfl) (by kernel_rfl) (fun _ _ _ h => by cases h.1) (Or.inl ⟨by rfl, ?_⟩) (by assumption) ?_
          rotate_left
          · (intro w hSw; (try dsimp only at hSw); go_simp; try with_reducible rfl)
          simp only [Act.put, List.setIfInBounds_toArray, List.set_cons_zero, List.set_cons_succ]
          refine take_at (i := 11) (v := ?_) (some 22) rfl rfl (by kernel_rfl) (by kernel_rfl) (by kernel_rfl) (fun _ _ _ h => by cases h.1) (Or.inl ⟨by rfl, ?_⟩) (by assumption) ?_
          rotate_left
          · (intro w hSw; (try dsimp only at hSw); go_simp; try with_reducible rfl)
          simp only [Act.put, List.setIfInBounds_toArray, List.set_cons_zero, List.set_cons_succ]
          refine take_at (i := 3) (v := ?_) (some 14) rfl rfl (by kernel_rfl) (by kernel_rfl) (by kernel_rfl) (fun _ _ _ h => by cases h.1) (Or.inl ⟨by rfl, ?_⟩) (by assumption) ?_
          rotate_left
          · (intro w hSw; (try dsimp only at hSw); go_simp; try with_reducible rfl)
          simp only [Act.put, List.setIfInBounds_toArray, List.set_cons_zero, List.set_cons_succ]
          refine take_at (i := 4) (v := ?_) (some 15) rfl rfl (by kernel_rfl) (by kernel_rfl) (by kernel_rfl) (fun _ _ _ h => by cases h.1) (Or.inl ⟨by rfl, ?_⟩) (by assumption) ?_
          rotate_left
          · (intro w hSw; (try dsimp only at hSw); go_simp; try with_reducible rfl)
          simp only [Act.put, List.setIfInBounds_toArray, List.set_cons_zero, List.set_cons_succ]
          refine take_at (i := 5) (v := ?_) (some 16) rfl rfl (by kernel_rfl) (by kernel_rfl) (by kernel_rfl) (fun _ _ _ h => by cases h.1) (Or.inl ⟨by rfl, ?_⟩) (by assumption) ?_
          rotate_left
          · (intro w hSw; (try dsimp only at hSw); go_simp; try with_reducible rfl)
          simp only [Act.put, List.setIfInBounds_toArray, List.set_cons_zero, List.set_cons_succ]
          refine take_at (i := 6) (v := ?_) (some 17) rfl rfl (by kernel_rfl) (by kernel_rfl) (by kernel_rfl) (fun _ _ _ h => by cases h.1) (Or.inl ⟨by rfl, ?_⟩) (by assumption) ?_
          rotate_left
          · (intro w hSw; (try dsimp only at hSw); go_simp; try with_reducible rfl)
          simp only [Act.put, List.setIfInBounds_toArray, List.set_cons_zero, List.set_cons_succ]
          refine take_at (i := 7) (v := ?_) (some 18) rfl rfl (by kernel_rfl) (by kernel_rfl) (by kernel_rfl) (fun _ _ _ h => by cases h.1) (Or.inl ⟨by rfl, ?_⟩) (by assumption) ?_
          rotate_left
          · (intro w hSw; (try dsimp only at hSw); go_simp; try with_reducible rfl)
          simp only [Act.put, List.setIfInBounds_toArray, List.set_cons_zero, List.set_cons_succ]
          refine take_at (i := 8) (v := _) (some 19) rfl rfl (by kernel_rfl) (by kernel_rfl) (by kernel_rfl) (fun _ _ _ h => by cases h.1) (yieldsIf_load_mid (by rfl) _ _ rfl _ _ rfl _ _ (fun w h => h.2.1) Try.underlying72 rfl (by kernel_rfl)) (by assumption) ?_
          simp only [Act.put, List.setIfInBounds_toArray, List.set_cons_zero, List.set_cons_succ]
          refine call_at (i := 9) (some 20) 48 _ _ rfl rfl rfl (by rfl) (by kernel_rfl) #[.agg (plV (V1 s1) s1).toArray] rfl Try.func48 (by kernel_rfl) (by kernel_rfl) ?_
          refine (least_any L1.out.1 L1.out.2).mono ?_
          rintro e W3 ⟨rfl, b3⟩
          have B3 := hidIt ((Below.refl Wi.heap.size Wi).drew.trans b3)
          have H3 := hidIt (II.out.hh.up B3.out)
          have c3 : W3.cell? ⟨hb, 0, none⟩ = some (.slice (some ⟨pb, 0, none⟩) n cap) ∧ W3.rangeAt pb 0 (plV (V1 s1) s1) ∧ W3.cell? ⟨W2.heap.size, 0, none⟩ = some x.k := ⟨(b3.cell (p := ⟨hb, 0, none⟩) (by obtain ⟨_, _, bx, _⟩ := II.out.hh.drew.hp.bx; exact bx.2.2)).trans c0, (H3.out.pl (i := 0) rfl).1, ((II.out.rp.below B3.out).cel 0 _ rfl).1⟩
          refine ⟨_, rfl, c3, fun hHeld => ?_⟩
          simp only [Act.put, List.setIfInBounds_toArray, List.set_cons_zero, List.set_cons_succ]
          refine call_at (i := 12) (some 23) 37 _ _ rfl rfl rfl (by rfl) (by kernel_rfl) #[y.k, x.k] rfl Try.func37 (by kernel_rfl) (by kernel_rfl) ?_
          refine (equal_any (TY.out.1.below H3.out.old) (P2.out.1.below H3.out.old)).mono ?_
          rintro e w4 ⟨rfl, hw⟩
          rw [hw]
          clear hw
          refine ⟨_, rfl, c3, fun hHeld => ?_⟩
          simp only [Act.put, List.setIfInBounds_toArray, List.set_cons_zero, List.set_cons_succ]
          clear c0 c3 r1' k0' MR hHeld b3 n1' n2'
          by_cases ek : y.p.k = x.p.k
          ·
            rw [decide_eq_true ek]
            refine take_at (i := 13) (v := ?_) (some 24) rfl rfl (by kernel_rfl) (by kernel_rfl) (by kernel_rfl) (fun _ _ _ h => by cases h.1) (Or.inl ⟨by rfl, ?_⟩) (by assumption) ?_
            rotate_left
            · (intro w hSw; (try dsimp only at hSw); go_simp; try with_reducible rfl)
            simp only [Act.put, List.setIfInBounds_toArray, List.set_cons_zero, List.set_cons_succ]
            refine wpAnyH_done (by kernel_rfl) ?_ _
            refine ⟨rfl, ?_⟩
            have EK := hidIt ek
            clear ek hHeld
            have TK := hidIt (take_any H3.out II.out.mg.nd II.out.mg.hf)
            gi_wp2
            refine ⟨trivial, ?_⟩
            refine CallsIn.mono ((callsIn_wide (n := _)).2 TK.out) ?_
            rintro e W4 ⟨x', r2, hx, rfl, hp, hs', hF, hS, hnd, hmem, hOff⟩
            have ey := L1.out.2
            rw [hx] at ey
            injection ey with ey1 ey2
            subst ey1 ey2
            have T4 := hidIt (II.out.mg.take hx hF hnd hmem)
            have REL : Hid (∃ V hs, CtN U0 L hb pb (mrgP (allP ls)) J j bs x W2.heap.size n0 (n1 - 1) V hs W4) := hidIt (by
              have ln := II.out.ln
              have l2 := T4.out.2.2.2
              have l3 := II.out.lt
              have np := II.out.np
              refine ⟨_, hs', hS, T4.out.1, fun k hk => ?_, fun y' hy => II.out.f2 y' (T4.out.2.2.1 y' hy), HB.out j bs Wi W4 II.out.jj ((Off.of B3.out).trans (hOff.mono (by intro b hb'; simp at hb'; rcases hb' with rfl | rfl; exact BB.out.1; exact BB.out.2))), (II.out.rp.below B3.out).off hOff (by simp; exact np), np, by omega, by omega⟩
              rw [T4.out.2.1 k (by rw [EK.out]; exact hk)]
              exact II.out.f1 k hk)
            have ME : Hid ((lst fun n => ∃ V hs, CtN U0 L hb pb (mrgP (allP ls)) J j bs x W2.heap.size n0 n V hs W4) < lst fun n => ∃ V hs, CtN U0 L hb pb (mrgP (allP ls)) J j bs x W2.heap.size n0 n V hs Wi) := hidIt (by
              have ln := II.out.ln
              have l2 := T4.out.2.2.2
              rw [← N1.out]
              exact Nat.lt_of_le_of_lt ((lst_spec ⟨n1 - 1, REL.out⟩).2 (n1 - 1) REL.out) (by omega))
            clear hx hp hF hS hnd hmem hOff T4 TK
            gi_wp2
            go_roundw
            case rel => exact ⟨n1 - 1, REL.out⟩
            case measure => exact ME.out
          ·
            rw [decide_eq_false ek]
            refine take_at (i := 13) (v := ?_) (some 24) rfl rfl (by kernel_rfl) (by kernel_rfl) (by kernel_rfl) (fun _ _ _ h => by cases h.1) (Or.inl ⟨by rfl, ?_⟩) (by assumption) ?_
            rotate_left
            · (intro w hSw; (try dsimp only at hSw); go_simp; try with_reducible rfl)
            simp only [Act.put, List.setIfInBounds_toArray, List.set_cons_zero, List.set_cons_succ]
            refine wpAnyH_done (by kernel_rfl) ?_ _
            refine ⟨rfl, ?_⟩
            have H2 : Hid (∀ y ∈ rest V1 L, cmpB x.p.k y.p.k < 0) := hidIt (fun z hz => by
              have g1 := (II.out.mg.front L1.out.2).1 z hz
              have yr := (fv_mem (II.out.mg.front L1.out.2).2).1
              have g2 := II.out.f2 y yr
              have g3 : cmpB y.p.k x.p.k ≠ 0 := fun q => ek ((c_zero _ _).1 q)
              have a1 := c_anti y.p.k x.p.k
              have a2 := c_anti z.p.k y.p.k
              exact c_lt_le (y := y.p.k) (by omega) (by omega))
            clear ek hHeld
            have JD := hidIt (HB.out j bs Wi W3 II.out.jj (Off.of B3.out))
            have HD := hidIt (II.out.hh.up B3.out)
            have RD := II.out.rp.below (B3.out.mono (Nat.le_refl _))
            have NX := hidIt (os_next (srt_mrgP _) OX.out II.out.f1 H2.out)
            obtain ⟨fn, tmps, assign, body, hy, hR⟩ := HY.out j bs (fun W => HpAt W hb pb V1 (s1 :: q1)) x W3 OX.out (HpAt.frm BB.out.1 BB.out.2) JD.out HD.out.hp
            have hy' : (Instr.yield l #[.agg #[x.k, x.v, .bool x.p.g]]).run Try.prog W3 = .ok (.round l fn tmps assign body) W3 := hy
            have d0 : W3.cell? ⟨W2.heap.size, 0, none⟩ = some x.k := (RD.cel 0 _ rfl).1
            have d1 : W3.cell? ⟨W2.heap.size, 1, none⟩ = some x.v := (RD.cel 1 _ rfl).1
            have d2 : W3.cell? ⟨W2.heap.size, 2, none⟩ = some (.bool x.p.g) := (RD.cel 2 _ rfl).1
            clear hy RD
            gi_wp2
            refine hR.mono ?_
            rintro e W5 (⟨rfl, hJ5, hG5⟩ | ⟨rfl, hJx5⟩)
            · have REL : Hid (ctR U0 L hb pb (mrgP (allP ls)) J n1 W5) := hidIt ⟨j + 1, bs, V1, s1 :: q1, ⟨⟨(HM.out _ _ _ hJ5).1, hG5, II.out.hh.lh, II.out.hh.lp, II.out.hh.oks, II.out.hh.few⟩, II.out.mg, NX.out, (List.getElem?_eq_some_iff.1 OX.out).1⟩, hJ5, .inl BB.out, II.out.ln⟩
              have ME : Hid ((lst fun n => ctR U0 L hb pb (mrgP (allP ls)) J n W5) < lst fun n => ctR U0 L hb pb (mrgP (allP ls)) J n Wr) := hidIt (by
                rw [← N0.out]
                exact Nat.lt_of_le_of_lt ((lst_spec ⟨n1, REL.out⟩).2 n1 REL.out) II.out.lt)
              clear hJ5 hG5 hR d0 d1 d2 hy'
              gi_wp2
              go_roundw
              case rel => exact ⟨n1, REL.out⟩
              case measure => exact ME.out
            · gi_wp2
              refine bodyPost_ret (results_none rfl _ _ _) rfl ?_
              exact ⟨⟨_, rfl⟩, .inr hJx5⟩
end Go.Proofs.Ytgpafmgncolnmaa
