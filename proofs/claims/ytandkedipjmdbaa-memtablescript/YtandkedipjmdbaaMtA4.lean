/-
  Walks, not a claim by itself: the script's clone, and its Put of a number. By the verifier.
-/
import Derived.Test.YtandkedipjmdbaaMtA0
namespace Go.Proofs.Ytandkedipjmdbaa
open Go.RowKit
attribute [-go_sem] Builtin.append_
theorem SN.next {N M : List Nat} {H : Nat} {W W3 : World} {P t r : Nat} {v lv : Value} {qs rs : List PV} (h : SN N H W P t r v qs lv rs) (hO : Off N W W3) (hM : ∀ b, b ∈ M → b ∈ N ∨ W.heap.size ≤ b) (hl : ∀ b, b ∈ M → b < W3.heap.size) : SN M H W3 P t r v qs lv rs :=
  ⟨h.si.off hO h.dj h.tq h.tr, fun b hb q => by rcases hM b hb with z | z; exact h.dj b z q; have := h.si.lt b q; omega, fun x hx => ((h.tq x hx).mono hM).both (h.tq x hx) hO, fun x hx => ((h.tr x hx).mono hM).both (h.tr x hx) hO, hl⟩
theorem but_tab {W W3 : World} {P t : Nat} {v : Value} {qs : List PV} {M : List Nat} (h : Tab W t v qs) (hB : But P W W3) (hP : P ∉ t :: v.ownBlock.toList) (hq : ∀ x ∈ qs, PVOk W (P :: M) x) : Tab W3 t v qs :=
  h.off (Off.but (bs := [P]) hB (by simp)) (fun b hb q => by simp at hb; subst hb; exact hP q) (fun x hx => (hq x hx).mono (fun b hb => .inl (by simp at hb; simp [hb])))
section
variable {ops : Array Oper} {rest : List Oper} {o : Oper} {a : Act} {w : World} {Q : Exit → Act → World → Prop}
theorem wpList_convN (hw : Region.wanted o (yielded ops a.tmps) = true) (x : Operand) (ho : o.op = .convert 33 33 x) (y n : Nat) (C : Array Value) (f : Nat → Int) (h0 : 0 < n) (hf : ∀ j, j < n → C[j]? = some (.int .u8 (f j)) ∧ 0 ≤ f j ∧ f j < 256) (hx : a.eval x = .slice (some ⟨y, 0, none⟩) n n) (hy : w.heap[y]? = some (.cells C 5 (0, 0)))
    (hK : ∀ W', But y w W' → Txt W' [] (.slice (some ⟨y, 0, none⟩) n n) (txtN n f) → wpList Try.prog ops Q rest (a.put o.dst (.slice (some ⟨y, 0, none⟩) n n)) W') : wpList Try.prog ops Q (o :: rest) a w := by
  obtain ⟨u', hr, hB, fz, hu⟩ := convL w y n n _ _ hy
  refine wpList_run_w hw _ u' (by unfold execOp; simp only [ho, hx, Sem.run_bind, hr, Result.andThen_ok]; rfl) (hK u' hB ?_)
  refine Txt.of (.inr ⟨h0, y, 0, rfl, fun j hj => ?_, fun j hj => (hf j hj).2, (Array.getElem?_eq_some_iff.1 hu).1⟩)
  rw [cell_of_row _ _ _ _ _ _ hu, Nat.zero_add]
  exact (hf j hj).1
end
theorem cl_dj {H : Nat} {W : World} {P t r t2 : Nat} {v lv v2 : Value} {qs rs : List PV} (h : SI H W P t r v qs lv rs) (ht : W.heap.size ≤ t2) (hv : ∀ g, v2.ownBlock = some g → W.heap.size ≤ g) : ∀ b, b ∈ t :: v.ownBlock.toList → b ∉ P :: (t2 :: v2.ownBlock.toList ++ r :: lv.ownBlock.toList) := fun b hb q => by
  have lb := h.tab.lt b hb
  rcases List.mem_cons.1 q with q | q
  · exact h.sepT b hb (by simp [q])
  · rcases List.mem_append.1 q with q | q
    · have := tab_new hv ht b q
      omega
    · exact h.sepT b hb (List.mem_cons_of_mem _ q)
theorem three_lit : ∀ j, j < 3 → (#[.int .u8 111, .int .u8 108, .int .u8 100] : Array Value)[j]? = some (.int .u8 ((fun j => if j = 0 then 111 else if j = 1 then 108 else 100 : Nat → Int) j)) ∧ (0 : Int) ≤ (fun j => if j = 0 then 111 else if j = 1 then 108 else 100 : Nat → Int) j ∧ (fun j => if j = 0 then 111 else if j = 1 then 108 else 100 : Nat → Int) j < 256 := fun j hj => by
  have : j = 0 ∨ j = 1 ∨ j = 2 := by omega
  rcases this with rfl | rfl | rfl <;> exact ⟨rfl, by decide, by decide⟩
set_option maxRecDepth 100000 in
set_option maxHeartbeats 4000000 in
theorem act_4 {H : Nat} {W : World} {P t r : Nat} {v lv : Value} {qs rs : List PV} (h : SI H W P t r v qs lv rs) (he : rs.map PV.p = qs.map PV.p) (kd nn : Int) (ka va : Option Addr) (n m kC vC : Nat) (fk fv : Nat → Int) (hk : AA H W ka n fk) (hv : AA H W va m fv) (hd : kd = 4) : Calls Try.prog 13 #[.pointer (some ⟨P, 0, none⟩), .agg (actC kd nn ka va n m kC vC).toArray] W fun e w' => e = .returned (.bool true) ∧ StP H W P w' := by
  have S0 := hidIt h
  have HE := hidIt he
  have HK := hidIt hk
  have HV := hidIt hv
  subst hd
  clear h he hk hv
  go_enter Try.func13, Try.ntmps13
  go_wp2_with (first
    | (refine wpList_box_rec rfl 35 (.tmp 1) rfl (actC 4 nn ka va n m kC vC) rfl W.heap.size rfl ?_; intro W1 R1 B1 z1; have E1 := hidIt (B1.mono S0.out.size); have S1 := hidIt (S0.out.more B1); have K1 := hidIt (HK.out.below E1.out); have V1 := hidIt (HV.out.below E1.out); have a0 := (R1.cel 0 _ rfl).1; have a1 := (R1.cel 1 _ rfl).1; have a2 := (R1.cel 2 _ rfl).1; have a3 := (R1.cel 3 _ rfl).1; have P1 := hidIt R1; have b1 := hidIt B1; clear R1 B1 z1; have p0 := (S1.out.pr.cel 0 _ rfl).1; clear a1 a2 a3)
    | (go_at_call 27; refine (tclone_any S1.out.tab).mono ?_; rintro e W2 ⟨t2, v2, rfl, h1, h2, h3, h4⟩; clear p0; have C2 := hidIt (And.intro h1 (And.intro h2 (And.intro h3 h4))); have P2 := hidIt (S1.out.pr.below h4); clear h1 h2 h3 h4 a0)
    | (refine wpList_put_rec rfl 24 (.tmp 103) (.tmp 101) rfl P 0 [.pointer (some ⟨t, 0, none⟩), .pointer (some ⟨r, 0, none⟩)] [.pointer (some ⟨t2, 0, none⟩)] [.pointer (some ⟨t2, 0, none⟩), .pointer (some ⟨r, 0, none⟩)] (.pointer (some ⟨t2, 0, none⟩)) rfl rfl rfl P2.out (by show 0 + 1 ≤ 2; omega) rfl (by kernel_rfl) (by intro u hu; rcases List.mem_singleton.1 hu with rfl; rfl) ?_; intro W3 R3 B3 z3; have S3 := hidIt (S1.out.clT C2.out.1 C2.out.2.1 C2.out.2.2.1 C2.out.2.2.2 R3 B3); have T3 := hidIt (but_tab (S1.out.tab.below C2.out.2.2.2) B3 (fun q => S1.out.sepT P q (by simp)) (fun x hx => (S1.out.okQ x hx).below C2.out.2.2.2)); have N3 : Hid (SN (t :: v.ownBlock.toList) H W3 P t2 r v2 qs lv rs) := hidIt ⟨S3.out, cl_dj S1.out C2.out.2.1 C2.out.2.2.1, T3.out.ok, fun x hx => (((S1.out.okR x hx).mono (M := P :: t :: v.ownBlock.toList) (fun b hb => .inl hb)).below C2.out.2.2.2 |>.off (Off.but (bs := P :: t :: v.ownBlock.toList) B3 (by simp))).mono (fun b hb => .inl (List.mem_cons_of_mem _ hb)), T3.out.lt⟩; have E3 := hidIt (E1.out.trans ((C2.out.2.2.2.mono S1.out.size).trans (B3.below S1.out.hP (Nat.le_trans S1.out.size C2.out.2.2.2.size)))); clear R3 B3 z3)
    | (refine wpList_run_w (by rfl) (.slice (some ⟨W3.heap.size, 0, none⟩) 3 3) (W3.alloc (.cells #[.int .u8 111, .int .u8 108, .int .u8 100] 5)) (bsl_run 33 5 3 _ rfl 1 1 _ #[.int .u8 111, .int .u8 108, .int .u8 100] _ Try.underlying33 info_u8 (by decide) (by decide) rfl (by kernel_rfl)) ?_; obtain ⟨W4, hW4⟩ : ∃ W4, W4 = W3.alloc (.cells #[.int .u8 111, .int .u8 108, .int .u8 100] 5) := ⟨_, rfl⟩; rw [← hW4]; have A4 : Hid (W4.heap[W3.heap.size]? = some (.cells #[.int .u8 111, .int .u8 108, .int .u8 100] 5 (0, 0))) := hidIt (by rw [hW4]; exact heap_alloc_new W3 _); have B4 := hidIt (show Below W3.heap.size W3 W4 by rw [hW4]; exact (Below.refl _ _).alloc (Nat.le_refl _) _); clear hW4)
    | (refine wpList_convN (by rfl) (.tmp 105) rfl W3.heap.size 3 _ (fun j => if j = 0 then 111 else if j = 1 then 108 else 100) (by decide) (three_lit) rfl A4.out ?_; intro W5 hb ht; have B5 := hidIt (B4.out.trans (hb.below (Nat.le_refl _) B4.out.size)); have X5 := hidIt ht; clear hb ht A4)
    | (go_at_call 24; refine (tput_ok (T3.out.below B5.out) X5.out (Txt.nil _ [] 0)).mono ?_; rintro e W6 ⟨v', qs', rfl, h1, h2, h3, h4, h5⟩; have T6 := hidIt h1; have N6 := hidIt ((N3.out.more B5.out).next (M := t :: v'.ownBlock.toList) h3 (fun b hb => by rcases List.mem_cons.1 hb with rfl | hb; exact .inl (by simp); rcases own_new h4 b hb with z | z; exact .inl (List.mem_cons_of_mem _ z); exact .inr z) h1.lt); have E6 := hidIt (E3.out.trans ((B5.out.mono S3.out.size).trans (h3.below (B := H) S1.out.hT (Nat.le_trans S3.out.size B5.out.size)))); have L6 : Hid (∀ b, b ∈ t :: v'.ownBlock.toList → H ≤ b) := hidIt (fun b hb => by rcases List.mem_cons.1 hb with rfl | hb; exact S1.out.hT _ (by simp); rcases own_new h4 b hb with z | z; exact S1.out.hT _ (List.mem_cons_of_mem _ z); exact Nat.le_trans (Nat.le_trans S3.out.size B5.out.size) z); clear h1 h2 h3 h4 h5 X5)
    | (refine wpList_lit rfl 97 rfl ?_; intro W7 ha hb hz; have A7 := hidIt ha; have B7 := hidIt hb; clear ha hb hz)
    | (refine wpList_conv rfl (.tmp 109) rfl W6.heap.size 97 (by decide) rfl A7.out ?_; intro W8 hb ht; have B8 := hidIt (B7.out.trans (hb.below (Nat.le_refl _) B7.out.size)); have X8 := hidIt ht; clear hb ht A7)
    | (go_at_call 25; refine (tremove_ok (T6.out.below B8.out) X8.out).mono ?_; rintro e W9 ⟨v'', qs'', rfl, h1, h2, h3, h4, h5⟩; have S9 := hidIt ((N6.out.more B8.out).off h3 (fun b hb => hb)).si; have E9 := hidIt (E6.out.trans ((B8.out.mono N6.out.si.size).trans (h3.below (B := H) L6.out (Nat.le_trans N6.out.si.size B8.out.size)))); have p1 := (S9.out.pr.cel 1 _ rfl).1; clear h1 h2 h3 h4 h5 X8)
    | (go_at_call 37; refine (rclone_any S9.out.ref).mono ?_; rintro e W10 ⟨r2, lv2, rfl, h1, h2, h3, h4⟩; clear p1; have C10 := hidIt (And.intro h1 (And.intro h2 (And.intro h3 h4))); have P10 := hidIt (S9.out.pr.below h4); clear h1 h2 h3 h4)
    | (refine wpList_put_rec rfl 26 (.tmp 119) (.tmp 117) rfl P 1 [.pointer (some ⟨t2, 0, none⟩), .pointer (some ⟨r, 0, none⟩)] [.pointer (some ⟨r2, 0, none⟩)] [.pointer (some ⟨t2, 0, none⟩), .pointer (some ⟨r2, 0, none⟩)] (.pointer (some ⟨r2, 0, none⟩)) rfl rfl rfl P10.out (by show 1 + 1 ≤ 2; omega) rfl (by kernel_rfl) (by intro u hu; rcases List.mem_singleton.1 hu with rfl; rfl) ?_; intro W11 R11 B11 z11; have S11 := hidIt (S9.out.clR C10.out.1 C10.out.2.1 C10.out.2.2.1 C10.out.2.2.2 R11 B11); have E11 := hidIt (E9.out.trans ((C10.out.2.2.2.mono S9.out.size).trans (B11.below S9.out.hP (Nat.le_trans S9.out.size C10.out.2.2.2.size)))); have f0 := (R11.cel 0 _ rfl).1; clear R11 B11 z11))
  exact bodyPost_ret (v := .bool true) (by simp [results, Try.results13, go_sem]) rfl ⟨rfl, t2, r2, v2, qs, lv2, rs, S11.out, HE.out, E11.out⟩
end Go.Proofs.Ytandkedipjmdbaa
