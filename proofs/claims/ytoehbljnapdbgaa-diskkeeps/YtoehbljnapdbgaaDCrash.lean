/-
  Walks, not a claim by itself: Crash. By the verifier.
-/
import Derived.Test.YtoehbljnapdbgaaDCr0
import Derived.Test.YtoehbljnapdbgaaDThree
namespace Go.Proofs.Ytoehbljnapdbgaa
open Go.RowKit Go.Maps
theorem DiskAt.calm {W : World} {d s m : Nat} {D : Dsk} (h : DiskAt W d s m D) : DiskAt ((W.setCell ⟨d, 4, none⟩ (.pointer none)).setCell ⟨d, 5, none⟩ (.bool false)) d s m { D with fz := none, out := false } := by
  have O : Off [d] W ((W.setCell ⟨d, 4, none⟩ (.pointer none)).setCell ⟨d, 5, none⟩ (.bool false)) := (Off.set _ _ _ (by simp)).trans (Off.set _ _ _ (by simp))
  exact { h with recd := (h.recd.put 4 (.pointer none)).put 5 (.bool false), row := h.row.off O (by have := h.ds; simp; omega), map := h.map.off O (by have := h.dm; simp; omega) }
/-- What Crash leaves. -/
def CrashPost (W : World) (d s : Nat) (D : Dsk) (nk : Nat) (kp : Nat → Bool) (tear : Int) (e : Ending) (w' : World) : Prop := e = .returned (.int .i64 0) ∧ ∃ m', W.heap.size ≤ m' ∧ DiskAt w' d s m' (D.crash nk kp tear) ∧ Off [d, s] W w'
/-- What the drawn regions need. -/
def crS (d s N T : Nat) (g : Nat → Int) (X : World) : Prop := X.cell? ⟨d, 1, none⟩ = some (.slice (some ⟨s, 0, none⟩) N N) ∧ X.rangeAt T 0 (cl .u8 256 g)
theorem cr_store (W wr W2 : World) (d s m nk k T : Nat) (D : Dsk) (kp : Nat → Bool) (tear : Int) (hk : k < (looseN D.N D.lo).length) (h : DiskAt wr d s m { D with sec := (crashK (looseN D.N D.lo) D.sec D.ob nk kp tear k).1 }) (hO : Off [s] W wr) (hB : Below wr.heap.size wr W2) (hR : IRow W2 T .u8 256 (at256 D.ob ((looseN D.N D.lo).getD k 0))) (hT : wr.heap.size ≤ T) (hg : ¬ (k < nk ∧ kp k = true)) :
    ∃ V3, (Instr.storeAt 88 (.pointer (some ⟨s, (looseN D.N D.lo).getD k 0 * 256, none⟩)) (.agg (cl .u8 256 (at256 D.ob ((looseN D.N D.lo).getD k 0))).toArray)).run Try.prog W2.drew = .ok () V3 ∧ crS d s D.N T (at256 D.ob ((looseN D.N D.lo).getD k 0)) W2.drew ∧ crS d s D.N T (at256 D.ob ((looseN D.N D.lo).getD k 0)) V3 ∧ Hid (crRel W d s m D nk kp tear (.int .i64 (crashK (looseN D.N D.lo) D.sec D.ob nk kp tear k).2) (.int .i64 ((k : Int) + 1)) V3) := by
  obtain ⟨ht, hl⟩ := looseN_at D.N D.lo k hk
  have D2 := (h.below hB).drew
  have sl := h.sl
  obtain ⟨V3, hr3, hR3, hB3⟩ := irow_put (at256 D.ob ((looseN D.N D.lo).getD k 0)) D2.row ht
  have D3 := D2.sec_put (i := (looseN D.N D.lo).getD k 0) hR3 hB3 (fun j hj => h.obb _ j ht hl hj)
  have R3 : IRow V3 T .u8 256 (at256 D.ob ((looseN D.N D.lo).getD k 0)) := (hR.drew).but hB3 (by omega)
  have rg : ∀ X : World, IRow X T .u8 256 (at256 D.ob ((looseN D.N D.lo).getD k 0)) → X.rangeAt T 0 (cl .u8 256 (at256 D.ob ((looseN D.N D.lo).getD k 0))) := fun X r => r.rec.1
  refine ⟨V3, hr3, ⟨(D2.recd.cel 1 _ rfl).1, rg _ hR.drew⟩, ⟨(D3.recd.cel 1 _ rfl).1, rg _ R3⟩, k + 1, by omega, by go_num, ?_, ?_, (hO.trans (Off.of hB.drew)).trans (Off.but hB3 (by simp))⟩
  · rw [cr_gone _ _ _ _ _ _ _ hg]
  · rw [cr_gone _ _ _ _ _ _ _ hg]
    exact D3
theorem cr_tear (W wr W2 : World) (d s m nk k T : Nat) (D : Dsk) (kp : Nat → Bool) (tear : Int) (hk : k < (looseN D.N D.lo).length) (h : DiskAt wr d s m { D with sec := (crashK (looseN D.N D.lo) D.sec D.ob nk kp tear k).1 }) (hO : Off [s] W wr) (hB : Below wr.heap.size wr W2) (hR : IRow W2 T .u8 256 (at256 D.ob ((looseN D.N D.lo).getD k 0))) (hT : wr.heap.size ≤ T) (hg : k < nk ∧ kp k = true) (he : (crashK (looseN D.N D.lo) D.sec D.ob nk kp tear k).2 = tear) :
    ∃ V3, (∀ ty, (Builtin.copy_ #[26, 26] ty #[.slice (some ⟨s, (looseN D.N D.lo).getD k 0 * 256 + 128, none⟩) 128 128, .slice (some ⟨T, 128, none⟩) 128 128]).run Try.prog W2.drew = .ok (goInt 128) V3) ∧ crS d s D.N T (at256 D.ob ((looseN D.N D.lo).getD k 0)) W2.drew ∧ crS d s D.N T (at256 D.ob ((looseN D.N D.lo).getD k 0)) V3 ∧ Hid (crRel W d s m D nk kp tear (.int .i64 ((crashK (looseN D.N D.lo) D.sec D.ob nk kp tear k).2 + 1)) (.int .i64 ((k : Int) + 1)) V3) := by
  obtain ⟨ht, hl⟩ := looseN_at D.N D.lo k hk
  have D2 := (h.below hB).drew
  have sl := h.sl
  have ob : ∀ j, j < 256 → 0 ≤ at256 D.ob ((looseN D.N D.lo).getD k 0) j ∧ at256 D.ob ((looseN D.N D.lo).getD k 0) j < 256 := fun j hj => h.obb _ j ht hl hj
  have lies : Lies W2.drew T 128 128 (fun j => at256 D.ob ((looseN D.N D.lo).getD k 0) (128 + j)) := ⟨fun j hj => hR.1 (128 + j) (by omega), fun j hj => ob _ (by omega), hR.2.2⟩
  obtain ⟨V3, hr3, hR3, hB3, _⟩ := copy_row W2.drew s (D.N * 256) ((looseN D.N D.lo).getD k 0 * 256 + 128) 128 128 128 128 128 (some ⟨T, 128, none⟩) _ _ D2.row (by omega) rfl (Arg.of lies)
  have hR4 := hR3.congr (g := putF (crashK (looseN D.N D.lo) D.sec D.ob nk kp tear k).1 ((looseN D.N D.lo).getD k 0) (halfF (at256 (crashK (looseN D.N D.lo) D.sec D.ob nk kp tear k).1 ((looseN D.N D.lo).getD k 0)) (at256 D.ob ((looseN D.N D.lo).getD k 0)))) (fun j _ => half_over _ _ _ j)
  have D3 := D2.sec_put (i := (looseN D.N D.lo).getD k 0) hR4 hB3 (fun j hj => by
    unfold halfF
    split
    · exact h.sb _ (by show _ < D.N * 256; omega)
    · exact ob j hj)
  have R3 : IRow V3 T .u8 256 (at256 D.ob ((looseN D.N D.lo).getD k 0)) := (hR.drew).but hB3 (by omega)
  have rg : ∀ X : World, IRow X T .u8 256 (at256 D.ob ((looseN D.N D.lo).getD k 0)) → X.rangeAt T 0 (cl .u8 256 (at256 D.ob ((looseN D.N D.lo).getD k 0))) := fun X r => r.rec.1
  refine ⟨V3, hr3, ⟨(D2.recd.cel 1 _ rfl).1, rg _ hR.drew⟩, ⟨(D3.recd.cel 1 _ rfl).1, rg _ R3⟩, k + 1, by omega, by go_num, ?_, ?_, (hO.trans (Off.of hB.drew)).trans (Off.but hB3 (by simp))⟩
  · rw [cr_torn _ _ _ _ _ _ _ hg he]
  · rw [cr_torn _ _ _ _ _ _ _ hg he]
    exact D3
set_option maxRecDepth 100000 in
set_option maxHeartbeats 1000000 in
theorem crash_okw (W : World) (d s m nk Ck : Nat) (p : Option Addr) (D : Dsk) (kp : Nat → Bool) (tear : Int) (h : DiskAt W d s m D) (hk : KArg W p nk kp) (hp : nk ≠ 0 → ∀ r, p = some r → r.block ≠ s) :
    Calls Try.prog 16 #[.pointer (some ⟨d, 0, none⟩), .slice p nk Ck, .int .i64 tear] W (CrashPost W d s D nk kp tear) := by
  have HD : Hid (DiskAt W d s m D) := h
  have HK : Hid (KArg W p nk kp) := hk
  have HP : Hid (nk ≠ 0 → ∀ r, p = some r → r.block ≠ s) := hp
  have n2 := h.n2
  have sl := h.sl
  clear h hk hp
  go_enter Try.func16, Try.ntmps16
  go_wp2_with (go_at_call 55; refine (made_ok _ d s m D HD.out).mono ?_; rintro e w1 ⟨rfl, rfl⟩)
  refine (loose_ok _ d s m D HD.out).mono ?_
  rintro e W1 ⟨v, rfl, hv, hB1⟩
  obtain ⟨g, cap, rfl, hG⟩ : ∃ g cap, v = .slice g (looseN D.N D.lo).length cap ∧ Hid (∀ k, k < (looseN D.N D.lo).length → ∃ b, g = some ⟨b, 0, none⟩ ∧ W1.cell? ⟨b, k, none⟩ = some (.int .i64 (((looseN D.N D.lo).getD k 0 : Nat) : Int)) ∧ w1.heap.size ≤ b ∧ b < W1.heap.size) := by
    rw [looseN_len] at hv
    rcases hv.2 with ⟨rfl, h0⟩ | ⟨b, cap, cur, rfl, hbg, hg, hnc, _, hsz, htake⟩
    · exact ⟨none, 0, by rw [h0], fun k hk => by omega⟩
    · refine ⟨_, cap, rfl, fun k hk => ⟨b, rfl, ?_, hbg, (Array.getElem?_eq_some_iff.1 hg).1⟩⟩
      rw [cell_of_row W1 b k cur 3 (0, 0) hg]
      have e : ((looseL D.N D.lo).map encZ)[k]? = some (.int .i64 (((looseN D.N D.lo).getD k 0 : Nat) : Int)) := by
        rw [looseL_N, List.map_map, List.getElem?_map, List.getElem?_eq_getElem hk, List.getD_eq_getElem?_getD, List.getElem?_eq_getElem hk]
        rfl
      rw [← htake, List.getElem?_take, if_pos (by omega)] at e
      simpa using e
  have ST : Hid (crRel W1 d s m D nk kp tear (.int .i64 0) (.int .i64 0) W1) := ⟨0, Nat.zero_le _, rfl, rfl, HD.out.below hB1, Off.refl _ _⟩
  have HK1 : Hid (KArg W1 p nk kp) := HK.out.off (bs := []) (Off.of hB1) (fun _ _ => by simp)
  have E1 : Hid (Below w1.heap.size w1 W1) := hB1
  clear hv hB1 HK HD
  go_wp2_with fail
  go_loopw [7, 17] (fun st i wr => crRel W1 d s m D nk kp tear st i wr) (fun _ i _ => (looseN D.N D.lo).length - (RowKit.intOf i).toNat)
  case atStart => exact ST.out
  case round =>
    obtain ⟨k, hk, rfl, rfl, dk, ok⟩ := hrel
    clear ST
    by_cases hlt : k < (looseN D.N D.lo).length
    · have i1 : (k : Int) < (looseN D.N D.lo).length := by omega
      obtain ⟨b, rfl, cb, hb1, hb2⟩ := hG.out k hlt
      have cb' : wr.cell? ⟨b, k, none⟩ = some (.int .i64 (((looseN D.N D.lo).getD k 0 : Nat) : Int)) := (ok.cell (p := ⟨b, k, none⟩) hb2 (by simp; omega)).trans cb
      obtain ⟨ht, hl⟩ := looseN_at D.N D.lo k hlt
      obtain ⟨c1, _⟩ := dk.recd.cel 1 _ rfl
      obtain ⟨c2, _⟩ := dk.recd.cel 2 _ rfl
      have hlk0 := look_at false dk.map ht n2
      rw [if_neg (by simp)] at hlk0
      have eo : oldF D.lo D.ob ((looseN D.N D.lo).getD k 0) = at256 D.ob ((looseN D.N D.lo).getD k 0) := if_pos hl
      have hlk : (Instr.lookup 35 (.map (some m)) (.int .i64 (((looseN D.N D.lo).getD k 0 : Nat) : Int)) false).run Try.prog wr = .ok (.agg (cl .u8 256 (at256 D.ob ((looseN D.N D.lo).getD k 0))).toArray) wr := by rw [← eo]; exact hlk0
      clear hlk0
      have KR : Hid (KArg wr p nk kp) := HK1.out.offw ok (fun hz r e => by simp; exact HP.out hz r e)
      have DK : Hid (DiskAt wr d s m { D with sec := (crashK (looseN D.N D.lo) D.sec D.ob nk kp tear k).1 }) := dk
      have OK : Hid (Off [s] W1 wr) := ok
      have gone : Hid (¬ (k < nk ∧ kp k = true) → ∀ W2 T, Below wr.heap.size wr W2 → IRow W2 T .u8 256 (at256 D.ob ((looseN D.N D.lo).getD k 0)) → wr.heap.size ≤ T → ∃ V3, (Instr.storeAt 88 (.pointer (some ⟨s, (looseN D.N D.lo).getD k 0 * 256, none⟩)) (.agg (cl .u8 256 (at256 D.ob ((looseN D.N D.lo).getD k 0))).toArray)).run Try.prog W2.drew = .ok () V3 ∧ crS d s D.N T (at256 D.ob ((looseN D.N D.lo).getD k 0)) W2.drew ∧ crS d s D.N T (at256 D.ob ((looseN D.N D.lo).getD k 0)) V3 ∧ Hid (crRel W1 d s m D nk kp tear (.int .i64 (crashK (looseN D.N D.lo) D.sec D.ob nk kp tear k).2) (.int .i64 ((k : Int) + 1)) V3)) := fun hg W2 T hB hR hT => cr_store W1 wr W2 d s m nk k T D kp tear hlt dk ok hB hR hT hg
      have torn : Hid (k < nk ∧ kp k = true → (crashK (looseN D.N D.lo) D.sec D.ob nk kp tear k).2 = tear → ∀ W2 T, Below wr.heap.size wr W2 → IRow W2 T .u8 256 (at256 D.ob ((looseN D.N D.lo).getD k 0)) → wr.heap.size ≤ T → ∃ V3, (∀ ty, (Builtin.copy_ #[26, 26] ty #[.slice (some ⟨s, (looseN D.N D.lo).getD k 0 * 256 + 128, none⟩) 128 128, .slice (some ⟨T, 128, none⟩) 128 128]).run Try.prog W2.drew = .ok (goInt 128) V3) ∧ crS d s D.N T (at256 D.ob ((looseN D.N D.lo).getD k 0)) W2.drew ∧ crS d s D.N T (at256 D.ob ((looseN D.N D.lo).getD k 0)) V3 ∧ Hid (crRel W1 d s m D nk kp tear (.int .i64 ((crashK (looseN D.N D.lo) D.sec D.ob nk kp tear k).2 + 1)) (.int .i64 ((k : Int) + 1)) V3)) := fun hg he W2 T hB hR hT => cr_tear W1 wr W2 d s m nk k T D kp tear hlt dk ok hB hR hT hg he
      have kept : Hid (k < nk ∧ kp k = true → ¬ (crashK (looseN D.N D.lo) D.sec D.ob nk kp tear k).2 = tear → ∀ W2, Below wr.heap.size wr W2 → crRel W1 d s m D nk kp tear (.int .i64 ((crashK (looseN D.N D.lo) D.sec D.ob nk kp tear k).2 + 1)) (.int .i64 ((k : Int) + 1)) W2) := fun hg he W2 hB => ⟨k + 1, by omega, by go_num, by rw [cr_kept _ _ _ _ _ _ _ hg he], by rw [cr_kept _ _ _ _ _ _ _ hg he]; exact dk.below hB, ok.trans (Off.of hB)⟩
      have sb := crashK_st (looseN D.N D.lo) D.sec D.ob nk kp tear k
      have lN := looseL_len D.N D.lo
      rw [looseN_len] at lN
      have stw : Hid (wrap64 ((crashK (looseN D.N D.lo) D.sec D.ob nk kp tear k).2 + 1) = (crashK (looseN D.N D.lo) D.sec D.ob nk kp tear k).2 + 1 ∧ IntKind.i64.wrap ((crashK (looseN D.N D.lo) D.sec D.ob nk kp tear k).2 + 1) = (crashK (looseN D.N D.lo) D.sec D.ob nk kp tear k).2 + 1) := ⟨by unfold wrap64; omega, by rw [IntKind.wrap_i64]; omega⟩
      have t0 : (0 : Int) ≤ (((looseN D.N D.lo).getD k 0 : Nat) : Int) := by omega
      have t1 : ((((looseN D.N D.lo).getD k 0 : Nat) : Int)) < D.N := by omega
      generalize hst : (crashK (looseN D.N D.lo) D.sec D.ob nk kp tear k).2 = st at gone torn kept stw ⊢
      clear hst sb
      generalize hT : (looseN D.N D.lo).getD k 0 = T0 at *
      clear hT
      obtain ⟨w1', w2'⟩ := stw.out
      by_cases a1 : k < nk
      · have q2 : ¬ (nk : Int) ≤ k := by omega
        have q3 : (k : Int) < nk := by omega
        obtain ⟨b2, off2, rfl, kc, kl⟩ : ∃ b2 off2, p = some ⟨b2, off2, none⟩ ∧ wr.cell? ⟨b2, off2 + k, none⟩ = some (.bool (kp k)) ∧ b2 < wr.heap.size := by
          rcases KR.out with h | ⟨b2, off2, rfl, h, hl⟩
          · omega
          · exact ⟨b2, off2, rfl, h k a1, hl⟩
        have HC : Hid (∀ W2, Below wr.heap.size wr W2 → W2.cell? ⟨b2, off2 + k, none⟩ = some (.bool (kp k))) := fun W2 hB => (hB.cell (p := ⟨b2, off2 + k, none⟩) kl).trans kc
        clear dk ok eo hl ht cb KR kc
        cases a2 : kp k with
        | true =>
          have hg : Hid (k < nk ∧ kp k = true) := ⟨a1, a2⟩
          rw [a2] at HC
          by_cases a3 : st = tear
          · have hst : Hid (st = tear) := a3
            subst a3
            go_wp2_with (first
              | (refine wpList_alloc_row rfl 88 rfl .u8 256 wr.heap.size rfl (by kernel_rfl) ?_; intro W2a R1 B1 z1)
              | (refine wpList_store_row rfl 88 (.tmp 10) (.tmp 27) rfl wr.heap.size .u8 256 (at256 D.ob T0) (fun _ => 0) rfl rfl R1 (by kernel_rfl) ?_; intro W2 R2 B2 z2
                 have B3 : Below wr.heap.size wr W2 := B1.trans (B2.below (Nat.le_refl _) (z1 ▸ Nat.le_succ _))
                 have kc2 := HC.out W2 B3
                 obtain ⟨V3, hr3, s2, s3, RR⟩ := torn.out hg.out hst.out W2 wr.heap.size B3 R2 (Nat.le_refl _)
                 clear B1 B2 z1 z2 R1 R2 B3))
            refine wp_region_noPanic ?_
            refine wp_region_held_drew (S := crS d s D.N wr.heap.size (at256 D.ob T0)) (by kernel_rfl) s2 (fun hHeld => ?_)
            refine take_at (i := 0) (v := ?_) (some 49) rfl rfl (by kernel_rfl) (by kernel_rfl) (by kernel_rfl) (fun _ _ _ h => h) (Or.inl ⟨by rfl, ?_⟩) (by assumption) ?_
            rotate_left
            · (intro w hSw; (try dsimp only at hSw); obtain ⟨q1, q2⟩ := hSw; clear q2; go_simp; try with_reducible rfl)
            simp only [Act.put, List.setIfInBounds_toArray, List.set_cons_zero, List.set_cons_succ]
            refine take_at (i := 1) (v := ?_) (some 50) rfl rfl (by kernel_rfl) (by kernel_rfl) (by kernel_rfl) (fun _ _ _ h => h) (Or.inl ⟨by rfl, ?_⟩) (by assumption) ?_
            rotate_left
            · (intro w hSw; (try dsimp only at hSw); obtain ⟨q1, q2⟩ := hSw; clear q2; go_simp; try with_reducible rfl)
            simp only [Act.put, List.setIfInBounds_toArray, List.set_cons_zero, List.set_cons_succ]
            refine take_at (i := 2) (v := ?_) (some 51) rfl rfl (by kernel_rfl) (by kernel_rfl) (by kernel_rfl) (fun _ _ _ h => h) (Or.inl ⟨by rfl, ?_⟩) (by assumption) ?_
            rotate_left
            · (intro w hSw; (try dsimp only at hSw); obtain ⟨q1, q2⟩ := hSw; clear q2; go_simp; try with_reducible rfl)
            simp only [Act.put, List.setIfInBounds_toArray, List.set_cons_zero, List.set_cons_succ]
            refine take_at (i := 3) (v := ?_) (some 52) rfl rfl (by kernel_rfl) (by kernel_rfl) (by kernel_rfl) (fun _ _ _ h => h) (Or.inl ⟨by rfl, ?_⟩) (by assumption) ?_
            rotate_left
            · (intro w hSw; (try dsimp only at hSw); obtain ⟨q1, q2⟩ := hSw; clear q2; go_simp; try with_reducible rfl)
            simp only [Act.put, List.setIfInBounds_toArray, List.set_cons_zero, List.set_cons_succ]
            refine take_at (i := 4) (v := ?_) (some 53) rfl rfl (by kernel_rfl) (by kernel_rfl) (by kernel_rfl) (fun _ _ _ h => h) (Or.inl ⟨by rfl, ?_⟩) (by assumption) ?_
            rotate_left
            · (intro w hSw; (try dsimp only at hSw); obtain ⟨q1, q2⟩ := hSw; clear q2; go_simp; try with_reducible rfl)
            simp only [Act.put, List.setIfInBounds_toArray, List.set_cons_zero, List.set_cons_succ]
            refine take_at (i := 5) (v := ?_) (some 54) rfl rfl (by kernel_rfl) (by kernel_rfl) (by kernel_rfl) (fun _ _ _ h => h) (Or.inl ⟨by rfl, ?_⟩) (by assumption) ?_
            rotate_left
            · (intro w hSw; (try dsimp only at hSw); obtain ⟨q1, q2⟩ := hSw; clear q2; go_simp; try with_reducible rfl)
            simp only [Act.put, List.setIfInBounds_toArray, List.set_cons_zero, List.set_cons_succ]
            refine take_at (i := 6) (v := ?_) (some 55) rfl rfl (by kernel_rfl) (by kernel_rfl) (by kernel_rfl) (fun _ _ _ h => h) (Or.inl ⟨by rfl, ?_⟩) (by assumption) ?_
            rotate_left
            · (intro w hSw; (try dsimp only at hSw); obtain ⟨q1, q2⟩ := hSw; clear q2; go_simp; try with_reducible rfl)
            simp only [Act.put, List.setIfInBounds_toArray, List.set_cons_zero, List.set_cons_succ]
            refine take_at (i := 7) (v := ?_) (some 56) rfl rfl (by kernel_rfl) (by kernel_rfl) (by kernel_rfl) (fun _ _ _ h => h) (Or.inl ⟨by rfl, ?_⟩) (by assumption) ?_
            rotate_left
            · (intro w hSw; (try dsimp only at hSw); obtain ⟨q1, q2⟩ := hSw; clear q2; go_simp; try with_reducible rfl)
            simp only [Act.put, List.setIfInBounds_toArray, List.set_cons_zero, List.set_cons_succ]
            refine step_at (i := 8) (some 57) rfl rfl (by rfl) (by kernel_rfl) _ V3 (copy_run (.tmp 55) (.tmp 56) 26 26 rfl _ _ rfl rfl (hr3 _)) s3 (fun hHeld => ?_)
            simp only [Act.put, List.setIfInBounds_toArray, List.set_cons_zero, List.set_cons_succ]
            refine wpAnyH_done (by kernel_rfl) ?_ _
            refine NoPanic.normal ?_
            go_wp2_with fail
            go_roundw
            case rel => exact RR.out
            case measure => simp [RowKit.intOf]; omega
          · have q4 : ¬ st = tear := a3
            have KP : Hid (∀ W2, Below wr.heap.size wr W2 → crRel W1 d s m D nk kp tear (.int .i64 (st + 1)) (.int .i64 ((k : Int) + 1)) W2) := kept.out hg.out a3
            clear a3
            go_wp2_with (first
              | (refine wpList_alloc_row rfl 88 rfl .u8 256 wr.heap.size rfl (by kernel_rfl) ?_; intro W2a R1 B1 z1)
              | (refine wpList_store_row rfl 88 (.tmp 10) (.tmp 27) rfl wr.heap.size .u8 256 (at256 D.ob T0) (fun _ => 0) rfl rfl R1 (by kernel_rfl) ?_; intro W2 R2 B2 z2
                 have B3 : Below wr.heap.size wr W2 := B1.trans (B2.below (Nat.le_refl _) (z1 ▸ Nat.le_succ _))
                 have kc2 := HC.out W2 B3
                 have RR : Hid (crRel W1 d s m D nk kp tear (.int .i64 (st + 1)) (.int .i64 ((k : Int) + 1)) W2) := KP.out W2 B3
                 clear B1 B2 z1 z2 R1 R2 B3))
            go_roundw
            case rel => exact RR.out
            case measure => simp [RowKit.intOf]; omega
        | false =>
          have hg : Hid (¬ (k < nk ∧ kp k = true)) := by intro q; rw [a2] at q; cases q.2
          rw [a2] at HC
          go_wp2_with (first
            | (refine wpList_alloc_row rfl 88 rfl .u8 256 wr.heap.size rfl (by kernel_rfl) ?_; intro W2a R1 B1 z1)
            | (refine wpList_store_row rfl 88 (.tmp 10) (.tmp 27) rfl wr.heap.size .u8 256 (at256 D.ob T0) (fun _ => 0) rfl rfl R1 (by kernel_rfl) ?_; intro W2 R2 B2 z2
               have B3 : Below wr.heap.size wr W2 := B1.trans (B2.below (Nat.le_refl _) (z1 ▸ Nat.le_succ _))
               have kc2 := HC.out W2 B3
               obtain ⟨V3, hr3, s2, s3, RR⟩ := gone.out hg.out W2 wr.heap.size B3 R2 (Nat.le_refl _)
               clear B1 B2 z1 z2 R1 R2 B3))
          refine wp_region_noPanic ?_
          refine wp_region_held_drew (S := crS d s D.N wr.heap.size (at256 D.ob T0)) (by kernel_rfl) s2 (fun hHeld => ?_)
          refine take_at (i := 0) (v := ?_) (some 39) rfl rfl (by kernel_rfl) (by kernel_rfl) (by kernel_rfl) (fun _ _ _ h => h) (Or.inl ⟨by rfl, ?_⟩) (by assumption) ?_
          rotate_left
          · (intro w hSw; (try dsimp only at hSw); obtain ⟨q1, q2⟩ := hSw; clear q2; go_simp; try with_reducible rfl)
          simp only [Act.put, List.setIfInBounds_toArray, List.set_cons_zero, List.set_cons_succ]
          refine take_at (i := 1) (v := ?_) (some 40) rfl rfl (by kernel_rfl) (by kernel_rfl) (by kernel_rfl) (fun _ _ _ h => h) (Or.inl ⟨by rfl, ?_⟩) (by assumption) ?_
          rotate_left
          · (intro w hSw; (try dsimp only at hSw); obtain ⟨q1, q2⟩ := hSw; clear q2; go_simp; try with_reducible rfl)
          simp only [Act.put, List.setIfInBounds_toArray, List.set_cons_zero, List.set_cons_succ]
          refine take_at (i := 2) (v := ?_) (some 41) rfl rfl (by kernel_rfl) (by kernel_rfl) (by kernel_rfl) (fun _ _ _ h => h) (Or.inl ⟨by rfl, ?_⟩) (by assumption) ?_
          rotate_left
          · (intro w hSw; (try dsimp only at hSw); obtain ⟨q1, q2⟩ := hSw; clear q2; go_simp; try with_reducible rfl)
          simp only [Act.put, List.setIfInBounds_toArray, List.set_cons_zero, List.set_cons_succ]
          refine take_at (i := 3) (v := ?_) (some 42) rfl rfl (by kernel_rfl) (by kernel_rfl) (by kernel_rfl) (fun _ _ _ h => h) (Or.inl ⟨by rfl, ?_⟩) (by assumption) ?_
          rotate_left
          · (intro w hSw; (try dsimp only at hSw); obtain ⟨q1, q2⟩ := hSw; clear q2; go_simp; try with_reducible rfl)
          simp only [Act.put, List.setIfInBounds_toArray, List.set_cons_zero, List.set_cons_succ]
          refine take_at (i := 4) (v := ?_) (some 43) rfl rfl (by kernel_rfl) (by kernel_rfl) (by kernel_rfl) (fun _ _ _ h => h) (Or.inl ⟨by rfl, ?_⟩) (by assumption) ?_
          rotate_left
          · (intro w hSw; (try dsimp only at hSw); obtain ⟨q1, q2⟩ := hSw; clear q2; go_simp; try with_reducible rfl)
          simp only [Act.put, List.setIfInBounds_toArray, List.set_cons_zero, List.set_cons_succ]
          refine take_at (i := 5) (v := _) (some 44) rfl rfl (by kernel_rfl) (by kernel_rfl) (by kernel_rfl) (fun _ _ _ h => h) (yieldsIf_load_mid (by rfl) 88 (.tmp 10) rfl wr.heap.size 0 rfl (cl .u8 256 (at256 D.ob T0)) _ (fun _ h => h.2) Try.underlying88 rfl (by rw [cl_len]; kernel_rfl)) (by assumption) ?_
          simp only [Act.put, List.setIfInBounds_toArray, List.set_cons_zero, List.set_cons_succ]
          refine take_at (i := 6) (v := ?_) (some 45) rfl rfl (by kernel_rfl) (by kernel_rfl) (by kernel_rfl) (fun _ _ _ h => h) (Or.inl ⟨by rfl, ?_⟩) (by assumption) ?_
          rotate_left
          · (intro w hSw; (try dsimp only at hSw); obtain ⟨q1, q2⟩ := hSw; clear q2; go_simp; try with_reducible rfl)
          simp only [Act.put, List.setIfInBounds_toArray, List.set_cons_zero, List.set_cons_succ]
          refine skip_at (i := 7) none rfl rfl (by rfl) (by kernel_rfl) V3 (store_skip 88 (.tmp 45) (.tmp 44) rfl _ _ rfl rfl hr3) s3 (fun hHeld => ?_)
          simp only [Act.put]
          refine wpAnyH_done (by kernel_rfl) ?_ _
          refine NoPanic.normal ?_
          go_wp2_with fail
          go_roundw
          case rel => exact RR.out
          case measure => simp [RowKit.intOf]; omega
      · have q2 : (nk : Int) ≤ k := by omega
        have hg : Hid (¬ (k < nk ∧ kp k = true)) := fun q => a1 q.1
        clear dk ok eo hl ht cb KR
        go_wp2_with (first
          | (refine wpList_alloc_row rfl 88 rfl .u8 256 wr.heap.size rfl (by kernel_rfl) ?_; intro W2a R1 B1 z1)
          | (refine wpList_store_row rfl 88 (.tmp 10) (.tmp 27) rfl wr.heap.size .u8 256 (at256 D.ob T0) (fun _ => 0) rfl rfl R1 (by kernel_rfl) ?_; intro W2 R2 B2 z2
             have B3 : Below wr.heap.size wr W2 := B1.trans (B2.below (Nat.le_refl _) (z1 ▸ Nat.le_succ _))
             obtain ⟨V3, hr3, s2, s3, RR⟩ := gone.out hg.out W2 wr.heap.size B3 R2 (Nat.le_refl _)
             clear B1 B2 z1 z2 R1 R2 B3))
        refine wp_region_noPanic ?_
        refine wp_region_held_drew (S := crS d s D.N wr.heap.size (at256 D.ob T0)) (by kernel_rfl) s2 (fun hHeld => ?_)
        refine take_at (i := 0) (v := ?_) (some 39) rfl rfl (by kernel_rfl) (by kernel_rfl) (by kernel_rfl) (fun _ _ _ h => h) (Or.inl ⟨by rfl, ?_⟩) (by assumption) ?_
        rotate_left
        · (intro w hSw; (try dsimp only at hSw); obtain ⟨q1, q2⟩ := hSw; clear q2; go_simp; try with_reducible rfl)
        simp only [Act.put, List.setIfInBounds_toArray, List.set_cons_zero, List.set_cons_succ]
        refine take_at (i := 1) (v := ?_) (some 40) rfl rfl (by kernel_rfl) (by kernel_rfl) (by kernel_rfl) (fun _ _ _ h => h) (Or.inl ⟨by rfl, ?_⟩) (by assumption) ?_
        rotate_left
        · (intro w hSw; (try dsimp only at hSw); obtain ⟨q1, q2⟩ := hSw; clear q2; go_simp; try with_reducible rfl)
        simp only [Act.put, List.setIfInBounds_toArray, List.set_cons_zero, List.set_cons_succ]
        refine take_at (i := 2) (v := ?_) (some 41) rfl rfl (by kernel_rfl) (by kernel_rfl) (by kernel_rfl) (fun _ _ _ h => h) (Or.inl ⟨by rfl, ?_⟩) (by assumption) ?_
        rotate_left
        · (intro w hSw; (try dsimp only at hSw); obtain ⟨q1, q2⟩ := hSw; clear q2; go_simp; try with_reducible rfl)
        simp only [Act.put, List.setIfInBounds_toArray, List.set_cons_zero, List.set_cons_succ]
        refine take_at (i := 3) (v := ?_) (some 42) rfl rfl (by kernel_rfl) (by kernel_rfl) (by kernel_rfl) (fun _ _ _ h => h) (Or.inl ⟨by rfl, ?_⟩) (by assumption) ?_
        rotate_left
        · (intro w hSw; (try dsimp only at hSw); obtain ⟨q1, q2⟩ := hSw; clear q2; go_simp; try with_reducible rfl)
        simp only [Act.put, List.setIfInBounds_toArray, List.set_cons_zero, List.set_cons_succ]
        refine take_at (i := 4) (v := ?_) (some 43) rfl rfl (by kernel_rfl) (by kernel_rfl) (by kernel_rfl) (fun _ _ _ h => h) (Or.inl ⟨by rfl, ?_⟩) (by assumption) ?_
        rotate_left
        · (intro w hSw; (try dsimp only at hSw); obtain ⟨q1, q2⟩ := hSw; clear q2; go_simp; try with_reducible rfl)
        simp only [Act.put, List.setIfInBounds_toArray, List.set_cons_zero, List.set_cons_succ]
        refine take_at (i := 5) (v := _) (some 44) rfl rfl (by kernel_rfl) (by kernel_rfl) (by kernel_rfl) (fun _ _ _ h => h) (yieldsIf_load_mid (by rfl) 88 (.tmp 10) rfl wr.heap.size 0 rfl (cl .u8 256 (at256 D.ob T0)) _ (fun _ h => h.2) Try.underlying88 rfl (by rw [cl_len]; kernel_rfl)) (by assumption) ?_
        simp only [Act.put, List.setIfInBounds_toArray, List.set_cons_zero, List.set_cons_succ]
        refine take_at (i := 6) (v := ?_) (some 45) rfl rfl (by kernel_rfl) (by kernel_rfl) (by kernel_rfl) (fun _ _ _ h => h) (Or.inl ⟨by rfl, ?_⟩) (by assumption) ?_
        rotate_left
        · (intro w hSw; (try dsimp only at hSw); obtain ⟨q1, q2⟩ := hSw; clear q2; go_simp; try with_reducible rfl)
        simp only [Act.put, List.setIfInBounds_toArray, List.set_cons_zero, List.set_cons_succ]
        refine skip_at (i := 7) none rfl rfl (by rfl) (by kernel_rfl) V3 (store_skip 88 (.tmp 45) (.tmp 44) rfl _ _ rfl rfl hr3) s3 (fun hHeld => ?_)
        simp only [Act.put]
        refine wpAnyH_done (by kernel_rfl) ?_ _
        refine NoPanic.normal ?_
        go_wp2_with fail
        go_roundw
        case rel => exact RR.out
        case measure => simp [RowKit.intOf]; omega
    · have i1 : ¬ (k : Int) < (looseN D.N D.lo).length := by omega
      have ek : k = (looseN D.N D.lo).length := by omega
      have DK : Hid (DiskAt wr d s m { D with sec := (crashK (looseN D.N D.lo) D.sec D.ob nk kp tear k).1 }) := dk
      have FIN : Hid (∀ w2, DiskAt w2 d s wr.heap.size ({ D with sec := (crashK (looseN D.N D.lo) D.sec D.ob nk kp tear k).1 } : Dsk).safe → Off [d] wr w2 → CrashPost w1 d s D nk kp tear (.returned (.int .i64 0)) ((w2.setCell ⟨d, 4, none⟩ (.pointer none)).setCell ⟨d, 5, none⟩ (.bool false))) := by
        intro w2 h1 h2
        refine ⟨rfl, wr.heap.size, Nat.le_trans E1.out.size ok.size, ?_, ?_⟩
        · have := h1.calm
          rw [ek] at this
          exact this
        · exact ((Off.of E1.out).trans (ok.mono (by simp))).trans ((h2.mono (by simp)).trans ((Off.set _ _ _ (by simp)).trans (Off.set _ _ _ (by simp))))
      clear dk ok ek
      go_wp2_with (go_at_call 54; refine (settle_ok _ d s m _ DK.out).mono ?_; rintro e w2 ⟨rfl, h1, h2⟩
                   obtain ⟨c4, f4⟩ := h1.recd.cel 4 _ rfl
                   obtain ⟨c5, f5⟩ := h1.recd.cel 5 _ rfl
                   have PP : Hid (CrashPost w1 d s D nk kp tear (.returned (.int .i64 0)) ((w2.setCell ⟨d, 4, none⟩ (.pointer none)).setCell ⟨d, 5, none⟩ (.bool false))) := FIN.out w2 h1 h2
                   clear h1 h2)
      go_ret
      exact PP.out
theorem crash_ok (W : World) (d s m nk Ck : Nat) (p : Option Addr) (D : Dsk) (kp : Nat → Bool) (tear : Int) (h : DiskAt W d s m D) (hk : KArg W p nk kp) (hp : ∀ r, p = some r → r.block ≠ s) :
    Calls Try.prog 16 #[.pointer (some ⟨d, 0, none⟩), .slice p nk Ck, .int .i64 tear] W (CrashPost W d s D nk kp tear) := crash_okw W d s m nk Ck p D kp tear h hk (fun _ => hp)
end Go.Proofs.Ytoehbljnapdbgaa
