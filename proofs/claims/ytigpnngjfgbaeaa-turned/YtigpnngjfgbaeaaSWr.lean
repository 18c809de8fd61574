/-
  Walks, not a claim by itself: superblock's Write, of a disk without a fuse whose copies are all the same. By the verifier.
-/
import Derived.Test.YtigpnngjfgbaeaaSFmt
import Derived.Test.YtigpnngjfgbaeaaSMend
import Derived.Test.YtigpnngjfgbaeaaSHds
namespace Go.Proofs.Ytigpnngjfgbaeaa
open Go.RowKit Go.Maps
/-- All copies are this superblock. -/
def AllAre (G : Nat → Int) (t : Sup) : Prop := ∀ i, i < 4 → Has G i t.img
theorem AllAre.best {G : Nat → Int} {t : Sup} (h : AllAre G t) (m : t.May) : ∃ q, q < 4 ∧ best G 4 = some q ∧ Has G q t.img := by
  refine best_found m (fun i hi hh => ?_) (fun i hi hn => absurd (h i hi) hn) 0 (by omega) (h 0 (by omega))
  by_cases q : i = 0
  · exact votes_two hi (k := 1) (by omega) (by omega) (fun j hj => (h 1 (by omega) j hj).trans (hh j hj).symm)
  · exact votes_two hi (k := 0) (by omega) q (fun j hj => (h 0 (by omega) j hj).trans (hh j hj).symm)
/-- What find answers where one copy is open. -/
def FndOk (W : World) (G : Nat → Int) (q : Nat) (e : Ending) (w' : World) : Prop := ∃ a C g, e = .returned (.tuple #[.agg (fndC (.slice (some ⟨g, 0, none⟩) 2048 2048) (cp G q) (supOf (behO (cp G q))) a C).toArray, .int .i64 0]) ∧ W.heap.size ≤ g ∧ Lies w' g 0 2048 G ∧ Below W.heap.size W w'
theorem find_some {w0 u : World} {d s m q : Nat} {D : Dsk} (h : St w0 u d s m D) (hf : D.free) (hn : 8 ≤ D.N) (hq : best D.sec 4 = some q) : Calls Try.prog 46 #[.pointer (some ⟨d, 0, none⟩)] u (FndOk u D.sec q) := by
  refine (find_go u d s m D 0 false h.at' (hf.fuse u 0) hf.up hn).mono ?_
  rintro e w' (⟨h1, _⟩ | ⟨q', a, C, g, h1, rfl, h2, h3, _, _, _, h7⟩)
  · rw [hq] at h1; cases h1
  · rw [hq] at h1
    injection h1 with h1
    subst h1
    exact ⟨a, C, g, rfl, h2, h3, h7⟩
/-- What Write makes of a disk. -/
def Dsk.writ (D : Dsk) (F : Nat → Int) : Dsk := (D.kept 0 F 4).kept 4 F 4
/-- While the halves are written. -/
def wrRel (w0 W : World) (d s m : Nat) (D : Dsk) (F : Nat → Int) (b B : Nat) (cs : List Value) (H4 : Nat) (i : Value) (wr : World) : Prop := ∃ (k : Nat) (m' : Nat), k ≤ 2 ∧ i = .int .i64 (2 * k : Int) ∧ St w0 wr d s m' (if k = 0 then D else if k = 1 then D.kept 0 F 4 else D.writ F) ∧ (m' = m ∨ W.heap.size ≤ m') ∧ m' ≠ b ∧ m' ≠ B ∧ m' ≠ H4 ∧ Lies wr b 0 1024 F ∧ Rec19 wr B 0 cs ∧ Rec19 wr H4 0 (supC sup0 none 0) ∧ B < wr.heap.size ∧ Off [d, s, m] W wr
/-- What Write answers. -/
def WrPost (w0 W : World) (d s m : Nat) (D' : Dsk) (s' : Sup) (e : Ending) (w' : World) : Prop := ∃ a C m', e = .returned (.tuple #[supV s' a C, .int .i64 0]) ∧ HArg w' a s'.k s'.h ∧ s'.k ≤ C ∧ (0 < s'.k → ∀ r, a = some r → W.heap.size ≤ r.block ∧ r.block ≠ m') ∧ St w0 w' d s m' D' ∧ (m' = m ∨ W.heap.size ≤ m') ∧ Off [d, s, m] W w'
set_option maxRecDepth 100000 in
set_option maxHeartbeats 600000 in
theorem write_st (w0 W : World) (d s m : Nat) (D : Dsk) (t sp : Sup) (a : Option Addr) (C : Nat) (h : St w0 W d s m D) (hf : D.few 100) (hn : 8 ≤ D.N) (hall : AllAre D.sec t) (ht : t.May) (hq : t.x 0 ≠ mOp) (hA : HArg w0 a sp.k sp.h) (hm : (sp.setq (t.x 0 + 1)).May) :
    Calls Try.prog 22 #[.pointer (some ⟨d, 0, none⟩), supV sp a C] W (WrPost w0 W d s m (D.writ (rep (sp.setq (t.x 0 + 1)).img)) (sp.setq (t.x 0 + 1))) := by
  obtain ⟨q, q4, hbest, hhas⟩ := hall.best ht
  have e0 : (supOf (behO (cp D.sec q))).x 0 = t.x 0 := ((has_seq ht hhas).2.1.2.2.1 0 (by omega)).symm
  have tb : 1 ≤ t.x 0 ∧ t.x 0 ≤ mOp := ht.2.2.1
  have SS : Hid (St w0 W d s m D) := h
  have FN : Hid (∀ u, St w0 u d s m D → Calls Try.prog 46 #[.pointer (some ⟨d, 0, none⟩)] u (FndOk u D.sec q)) := fun u hu => find_some hu (hf.free (by decide)) hn hbest
  have MD : Hid (∀ u g s a C, Lies u g 0 2048 D.sec → Calls Try.prog 47 #[.agg (fndC (.slice (some ⟨g, 0, none⟩) 2048 2048) (cp D.sec q) s a C).toArray, .pointer (some ⟨d, 0, none⟩)] u fun e w' => e = .returned (.int .i64 0) ∧ Below u.heap.size u w') := fun u g s a C hL => mend_same u g D.sec (cp D.sec q) s a C _ hL (fun i hi j hj => (hall i hi j hj).trans (hhas j hj).symm)
  obtain ⟨x0, hx0⟩ : ∃ x, t.x 0 = x := ⟨_, rfl⟩
  rw [hx0] at e0 hq tb hm ⊢
  obtain ⟨F, hF⟩ : ∃ F, rep (sp.setq (x0 + 1)).img = F := ⟨_, rfl⟩
  have BY : Hid (∀ u, Below W.heap.size W u → Calls Try.prog 10 #[.agg (supC (sp.setq (x0 + 1)) a C).toArray] u (ByPost u (sp.setq (x0 + 1)))) := fun u hB => bytes_ok (sp.setq (x0 + 1)) a C u ((hA.below h.bel).below hB) hm
  have RP : Hid (∀ u b, Lies u b 0 512 (sp.setq (x0 + 1)).img → Calls Try.prog 48 #[.slice (some ⟨b, 0, none⟩) 512 512, .int .i64 2] u (RepPost u 1024 (sp.setq (x0 + 1)).img)) := fun u b hL => repeat_any b 0 512 2 1024 _ u hL (by omega) rfl (by omega) mul_2
  have KP : Hid (∀ u b m' x D', St w0 u d s m' D' → D'.few 200 → x ≤ 2 → 8 ≤ D'.N → Lies u b 0 1024 F → b ≠ s → b ≠ m' → Calls Try.prog 49 #[.pointer (some ⟨d, 0, none⟩), .int .i64 ((x : Nat) : Int), .slice (some ⟨b, 0, none⟩) 1024 1024] u (KeptPost w0 u d s m' (D'.kept (x * 2) F 4))) := fun u b m' x D' hu hfe hx hN hL h1 h2 => keep_st w0 u d s m' x b 0 4 1024 1024 D' _ hu (hfe.mono (by decide)) (by omega) rfl hL (by omega) (by omega) (by omega) (by omega) ⟨h1, h2⟩
  have FE : Hid (D.few 100 ∧ 8 ≤ D.N) := ⟨hf, hn⟩
  have HM : Hid ((sp.setq (x0 + 1)).k ≤ 32) := hm.2.1
  have HA : Hid (HArg w0 a (sp.setq (x0 + 1)).k (sp.setq (x0 + 1)).h) := hA
  have HFF : Hid (rep (sp.setq (x0 + 1)).img = F) := hF
  rw [hF]
  have dl := h.at'.dl
  have sl := h.at'.sl
  have ml := h.at'.ml
  have x1 : (x0 == 1073741824) = false := by unfold mOp at hq; simpa using hq
  have x2 : IntKind.i64.wrap (x0 + 1) = x0 + 1 := by unfold mOp at tb; rw [IntKind.wrap_i64]; omega
  have x3 : wrap64 (x0 + 1) = x0 + 1 := by unfold mOp at tb; unfold wrap64; omega
  have E0 : Hid ((supOf (behO (cp D.sec q))).x 0 = x0) := e0
  clear h hf hn hall ht hq hA hm hbest hhas e0 tb hx0 hF q4
  unfold supV
  have K1 : Hid True := trivial
  have K2 : Hid True := trivial
  go_enter Try.func22, Try.ntmps22
  go_wp2_with (first
    | (refine wpList_box_rec rfl 26 (.tmp 1) rfl (supC sp a C) rfl W.heap.size rfl ?_; intro W0 R0 B0 z0)
    | (have _q := K1; clear K1; refine wpList_alloc_rec rfl 26 rfl (supC sup0 none 0) (W.heap.size + 1) z0 zero_super ?_; intro W1 R1 B1 z1
       have E1 : Below W.heap.size W W1 := B0.trans (B1.mono (by omega))
       have R0a := R0.below (B1.mono (by omega)))
    | (go_at_call 46; refine (FN.out _ (SS.out.below E1)).mono ?_; rintro e w2 ⟨af, Cf, g, rfl, hg, L2, B2⟩
       have E2 : Below W.heap.size W w2 := E1.trans (B2.mono E1.size)
       have R0b := R0a.below B2
       have R1b := R1.below B2
       have z2 := B2.size
       clear R0 B0 R1 B1 R0a)
    | (have _q := K2; clear K2; refine wpList_alloc_rec rfl 87 rfl fnd0 w2.heap.size rfl zero_found ?_; intro W3 R3 B3 z3)
    | (refine wpList_store_rec rfl 87 (.tmp 6) (.tmp 16) rfl w2.heap.size 0 _ (fndC (.slice (some ⟨g, 0, none⟩) 2048 2048) (cp D.sec q) (supOf (behO (cp D.sec q))) af Cf) rfl rfl R3 (by rw [fndC_len]; exact fndC_len _ _ _ _ _) (by rw [fndC_len]; exact info_found) (fndC_one _ _ _ _ _ rfl) ?_; intro W4 R4 B4
       have E24 : Below w2.heap.size w2 W4 := B3.trans (B4.below (Nat.le_refl _) (by omega))
       have E4 : Below W.heap.size W W4 := E2.trans (E24.mono E2.size)
       have R0c := R0b.below E24
       have R1c := R1b.below E24
       have L4 := L2.below E24
       have c513 : W4.cell? ⟨w2.heap.size, 513, none⟩ = some (.int .i64 x0) := by
         have h1 : Rec19 W4 w2.heap.size 0 (([.slice (some ⟨g, 0, none⟩) 2048 2048] ++ cl .u8 512 (cp D.sec q)) ++ supC (supOf (behO (cp D.sec q))) af Cf ++ []) := by rw [List.append_nil]; exact R4
         have h2 := h1.sub
         rw [show ([Value.slice (some ⟨g, 0, none⟩) 2048 2048] ++ cl .u8 512 (cp D.sec q)).length = 513 by rw [List.length_append, cl_len]; rfl] at h2
         have := h2.1 0 _ rfl
         rw [E0.out] at this
         exact this
       obtain ⟨c0, f0⟩ := R0c.cel 0 _ rfl
       have R5 : Rec19 (W4.setCell ⟨W.heap.size, 0, none⟩ (.int .i64 (x0 + 1))) W.heap.size 0 (supC (sp.setq (x0 + 1)) a C) := R0c.put 0 (.int .i64 (x0 + 1))
       have U5 : But W.heap.size W4 (W4.setCell ⟨W.heap.size, 0, none⟩ (.int .i64 (x0 + 1))) := But.set _ _ _
       have E5 : Below W.heap.size W (W4.setCell ⟨W.heap.size, 0, none⟩ (.int .i64 (x0 + 1))) := E4.trans (U5.below (Nat.le_refl _) E4.size)
       have R1d := R1c.but U5 (by omega)
       have R4d := R4.but U5 (by omega)
       have L5 := L4.but U5 (by have := E1.size; omega)
       clear R0b R1b L2 R3 B3 B4 E24 E4 R0c R1c L4 R4 U5)
    | (refine wpList_load_rec rfl 26 (.tmp 3) rfl W.heap.size 0 (supC (sp.setq (x0 + 1)) a C) rfl _ Try.underlying26 rfl (by kernel_rfl) R5 ?_)
    | (go_at_call 10; refine (BY.out _ E5).mono ?_; rintro e w6 ⟨g6, rfl, hg6, L6, B6⟩
       have E6 : Below W.heap.size W w6 := E5.trans (B6.mono E5.size)
       have L6' := L6.lies (fun j hj => Sup.img_byte _ j hj)
       have R6 := R5.below B6
       have R1e := R1d.below B6
       have R4e := R4d.below B6
       have L5e := L5.below B6
       clear L6 R5 R1d R4d L5)
    | (refine wpList_load_rec rfl 87 (.tmp 6) rfl w2.heap.size 0 (fndC (.slice (some ⟨g, 0, none⟩) 2048 2048) (cp D.sec q) (supOf (behO (cp D.sec q))) af Cf) rfl _ Try.underlying87 rfl (by rw [fndC_len]; exact info_found) R4e ?_)
    | (go_at_call 47; refine (MD.out _ g _ af Cf L5e).mono ?_; rintro e w7 ⟨rfl, B7⟩
       have E7 : Below W.heap.size W w7 := E6.trans (B7.mono E6.size)
       have R7 := R6.below B7
       have R1f := R1e.below B7
       have L7 := L6'.below B7
       clear R6 R1e R4e L5e L6')
    | (go_at_call 48; refine (RP.out _ g6 L7).mono ?_; rintro e w8 ⟨g8, rfl, hg8, L8, B8⟩
       rw [HFF.out] at L8
       have E8 : Below W.heap.size W w8 := E7.trans (B8.mono E7.size)
       have R8 := R7.below B8
       have R1g := R1f.below B8
       have S8 : St w0 w8 d s m D := SS.out.below E8
       have s7 := E7.size
       have RZ : Hid (wrRel w0 W d s m D F g8 W.heap.size (supC (sp.setq (x0 + 1)) a C) (W.heap.size + 1) (.int .i64 0) w8) := ⟨0, m, by omega, rfl, S8, .inl rfl, by omega, by omega, by omega, L8, R8, R1g, R8.2.2, Off.of E8⟩
       have n1 : g8 ≠ s := by omega
       clear R7 R1f L7 L8 R8 R1g S8 B8 E8))
  go_loopw [11] (fun i wr => wrRel w0 W d s m D F g8 W.heap.size (supC (sp.setq (x0 + 1)) a C) (W.heap.size + 1) i wr) (fun i _ => 6 - (RowKit.intOf i).toNat)
  case atStart => exact RZ.out
  case round =>
    obtain ⟨k, m', k2, rfl, hS, hm', q1, q2, q3, hL, hB, hH, hBl, hO⟩ := hrel
    clear RZ
    obtain ⟨F1, F2⟩ := FE.out
    have gl := hL.2.2
    have hHl := hH.2.2
    by_cases hlt : k < 2
    · have KC := KP.out wr g8 m' (2 * k) _ hS (by
        split
        · exact F1.mono (by decide)
        · split
          · exact (F1.kept 0 F 4).mono (by decide)
          · omega) (by omega) (by
        split
        · exact F2
        · split
          · rw [Dsk.kept_N]; exact F2
          · omega) hL n1 (Ne.symm q1)
      have KH : Hid (Calls Try.prog 49 #[.pointer (some ⟨d, 0, none⟩), .int .i64 (2 * (k : Int)), .slice (some ⟨g8, 0, none⟩) 1024 1024] wr fun e w' => e = .returned (.int .i64 0) ∧ wrRel w0 W d s m D F g8 W.heap.size (supC (sp.setq (x0 + 1)) a C) (W.heap.size + 1) (.int .i64 (2 * (k : Int) + 2)) w') := by
        have ce : ((2 * k : Nat) : Int) = 2 * (k : Int) := by omega
        rw [ce] at KC
        refine KC.mono ?_
        rintro e w' ⟨rfl, m2, hS2, hm2, hO2⟩
        have nn : ∀ y, y < wr.heap.size → m' ≠ y → m2 ≠ y := fun y y1 y2 => by
          rcases hm2 with r | r
          · rw [r]; exact y2
          · omega
        refine ⟨rfl, k + 1, m2, by omega, by go_num, ?_, ?_, nn _ gl q1, nn _ hBl q2, nn _ hHl q3, hL.off hO2 ?_, hB.off hO2 ?_, hH.off hO2 ?_, by have := hO2.size; omega, ?_⟩
        · have kk : k = 0 ∨ k = 1 := by omega
          rcases kk with rfl | rfl
          · simpa using hS2
          · simpa [Dsk.writ] using hS2
        · rcases hm2 with r | r
          · rw [r]; exact hm'
          · exact .inr (Nat.le_trans hO.size r)
        · have := hS.at'.dl
          simp only [List.mem_cons, List.not_mem_nil, or_false, not_or]
          exact ⟨by omega, n1, Ne.symm q1⟩
        · simp only [List.mem_cons, List.not_mem_nil, or_false, not_or]
          exact ⟨by omega, by omega, Ne.symm q2⟩
        · simp only [List.mem_cons, List.not_mem_nil, or_false, not_or]
          exact ⟨by omega, by omega, Ne.symm q3⟩
        · refine hO.far hO2 (fun y q => ?_)
          simp at q
          rcases q with q | q | q
          · exact .inl (by simp [q])
          · exact .inl (by simp [q])
          · rcases hm' with r | r
            · exact .inl (by simp [q, r])
            · exact .inr (by omega)
      have i0 : (2 * (k : Int) < 4) := by omega
      have i1 : IntKind.i64.wrap (2 * (k : Int) + 2) = 2 * (k : Int) + 2 := by rw [IntKind.wrap_i64]; omega
      have i2 : wrap64 (2 * (k : Int) + 2) = 2 * (k : Int) + 2 := by unfold wrap64; omega
      clear KC hS hL hB hH hO hm' q1 q2 q3 F1 F2 gl hHl hBl KP
      go_wp2_with (go_at_call 49; refine KH.out.mono ?_; rintro e w9 ⟨rfl, r9⟩; have R9 : Hid (wrRel w0 W d s m D F g8 W.heap.size (supC (sp.setq (x0 + 1)) a C) (W.heap.size + 1) (.int .i64 (2 * (k : Int) + 2)) w9) := r9; clear r9)
      go_roundw
      case rel => exact R9.out
      case measure => simp [RowKit.intOf]; omega
    · obtain rfl : k = 2 := by omega
      have hS' : St w0 wr d s m' (D.writ F) := by simpa using hS
      obtain ⟨a', C', W2, hr2, hA2, hC2, hB2, hn2, hz2⟩ := heads_app (C := C) (OwnI.nil wr wr.heap.size 75 2 _) (HA.out.below hS'.bel) (Nat.le_trans HM.out (by decide)) (Nat.le_refl _)
      have R1 := hB.below hB2
      have H1 := hH.below hB2
      obtain ⟨c10, f10⟩ := hB.cel 10 _ rfl
      obtain ⟨d10, e10⟩ := R1.cel 10 _ rfl
      obtain ⟨W3, hW3⟩ : ∃ W3, W2.setCell ⟨W.heap.size, 10, none⟩ (.slice a' (sp.setq (x0 + 1)).k C') = W3 := ⟨_, rfl⟩
      have R3 : Rec19 W3 W.heap.size 0 (supC (sp.setq (x0 + 1)) a' C') := by rw [← hW3]; exact R1.put 10 _
      have U3 : But W.heap.size W2 W3 := by rw [← hW3]; exact But.set _ _ _
      have H3 := H1.but U3 (by omega)
      have PP : Hid (∀ W4, But (W.heap.size + 1) W3 W4 → WrPost w0 W d s m (D.writ F) (sp.setq (x0 + 1)) (.returned (.tuple #[supV (sp.setq (x0 + 1)) a' C', .int .i64 0])) W4) := by
        intro W4 U4
        have w0W := SS.out.bel.size
        have ml' := hS'.at'.ml
        have dl' := hS'.at'.dl
        have sl' := hS'.at'.sl
        have s2 : St w0 W2 d s m' (D.writ F) := hS'.below hB2
        have s3 := s2.but U3 (by omega) (by omega) q2 w0W
        have s4 := s3.but U4 (by omega) (by omega) q3 (by omega)
        have o4 : Off [d, s, m] W W4 := ((hO.trans (Off.of (hB2.mono (Nat.le_refl _)))).far (Off.but (bs := [W.heap.size]) U3 (by simp)) (fun y q => by simp at q; exact .inr (by omega))).far (Off.but (bs := [W.heap.size + 1]) U4 (by simp)) (fun y q => by simp at q; exact .inr (by omega))
        refine ⟨a', C', m', rfl, ?_, hC2, fun k0 r hr => ?_, s4, hm', o4⟩
        · by_cases k0 : 0 < (sp.setq (x0 + 1)).k
          · obtain ⟨r, rfl, hr⟩ := hn2 k0
            have a3 : HArg W3 (some ⟨r, 0, none⟩) (sp.setq (x0 + 1)).k (sp.setq (x0 + 1)).h := hA2.off (Off.but (bs := [W.heap.size]) U3 (by simp)) (fun y hy => by injection hy with hy; subst hy; simp; omega)
            exact a3.off (Off.but (bs := [W.heap.size + 1]) U4 (by simp)) (fun y hy => by injection hy with hy; subst hy; simp; omega)
          · exact .inl (by omega)
        · obtain ⟨r', rfl, hr'⟩ := hn2 k0
          injection hr with hr
          subst hr
          have := hO.size
          exact ⟨by show W.heap.size ≤ r'; omega, by show r' ≠ m'; omega⟩
      clear hS hS' hL hB hH hO hm' q1 q2 q3 F1 F2 gl hHl hBl KP hA2 hC2 hB2 hn2 hz2 R1 H1 U3
      go_wp2_with (first
        | (at_builtin; refine wpList_append_go rfl (.const (.slice none 0 0)) (.tmp 63) 24 24 rfl _ _ rfl rfl hr2 ?_)
        | (refine wpList_load_rec rfl 26 (.tmp 3) rfl W.heap.size 0 (supC (sp.setq (x0 + 1)) a' C') rfl _ Try.underlying26 rfl (by kernel_rfl) R3 ?_)
        | (refine wpList_store_rec rfl 26 (.tmp 4) (.tmp 66) rfl (W.heap.size + 1) 0 _ (supC (sp.setq (x0 + 1)) a' C') rfl rfl H3 rfl (by kernel_rfl) (supC_one _ _ _) ?_; intro W4 R4 B4))
      have hl := R4.run_load 26 _ Try.underlying26 rfl (by kernel_rfl)
      exact bodyPost_ret (v := .tuple #[supV (sp.setq (x0 + 1)) a' C', .int .i64 0]) (by simp [results, Try.results22, asAddr, supV, hl]) rfl (PP.out _ B4)
end Go.Proofs.Ytigpnngjfgbaeaa
