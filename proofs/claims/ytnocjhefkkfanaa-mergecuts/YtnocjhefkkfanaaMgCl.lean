/-
  Walks, not a claim by itself: pairs that are copied. By the verifier.
-/
import Derived.Test.YtnocjhefkkfanaaMgCo
import Derived.Laws.Cover3
namespace Go.Proofs.Ytnocjhefkkfanaa
open Go.RowKit
attribute [-go_sem] Builtin.append_
/-- A slice of bytes of its own, which may be one of no bytes. -/
def FrC (W : World) (base : Nat) (s : Value) (t : ByteArray) : Prop := Fr W base s t ∨ (t.size = 0 ∧ ∃ g, s = .slice (some ⟨g, 0, none⟩) 0 0)
theorem FrC.sl {W : World} {base : Nat} {s : Value} {t : ByteArray} (h : FrC W base s t) : ∃ a n C, s = .slice a n C := by
  rcases h with h | ⟨_, g, rfl⟩
  · exact h.sl
  · exact ⟨_, _, _, rfl⟩
theorem FrC.off {W W' : World} {base : Nat} {s : Value} {t : ByteArray} {N : List Nat} (h : FrC W base s t) (hO : Off N W W') (hN : ∀ b, b ∈ N → b < base) : FrC W' base s t := h.imp (fun h => h.off hO hN) id
theorem FrC.below {W W' : World} {base : Nat} {s : Value} {t : ByteArray} (h : FrC W base s t) (hB : Below W.heap.size W W') : FrC W' base s t := h.imp (fun h => h.below hB) id
theorem FrC.low {W : World} {base base' : Nat} {s : Value} {t : ByteArray} (h : FrC W base s t) (hb : base' ≤ base) : FrC W base' s t := h.imp (fun h => h.low hb) id
theorem FrC.offT {W W' : World} {base : Nat} {s : Value} {t : ByteArray} {N : List Nat} (h : FrC W base s t) (k : Txt W N s t) (hO : Off N W W') : FrC W' base s t := h.imp (fun h => h.offT k hO) id
theorem FrC.cks {W W' : World} {base : Nat} {s : Value} {t : ByteArray} (h : FrC W base s t) (k : Cks W W') : FrC W' base s t := h.imp (fun h => h.cks k) id
theorem FrC.txt {W : World} {base : Nat} {s : Value} {t : ByteArray} {N : List Nat} (h : FrC W base s t) (hN : ∀ b, b ∈ N → b < base) : Txt W N s t := by
  rcases h with h | ⟨h0, g, rfl⟩
  · exact h.txt hN
  · have e : t = ByteArray.empty := by
      apply ByteArray.ext
      exact Array.eq_empty_of_size_eq_zero h0
    subst e
    exact ⟨_, 0, fun _ => 0, rfl, .inl ⟨rfl, .inr ⟨_, rfl⟩⟩, rfl, fun q => absurd q (by decide)⟩
theorem bs0u_run {a : Act} {w : World} {o : Oper} (ho : o.op = .buildSlice 23 0 #[]) : (execOp a.eval o).run Try.prog w = .ok (.value (.slice (some ⟨w.heap.size, 0, none⟩) 0 0)) (w.alloc (.cells #[] 5)) := by
  obtain ⟨i0, hi, _, _, _⟩ := info_parts info_u8
  unfold execOp
  simp only [ho]
  simp [Instr.buildSlice, run_underlying Try.underlying23, sizeOf, typeInfo, hi, newRow, Instr.fill, Result.andThen]
  congr 2
  exact Array.eq_empty_of_size_eq_zero (by simp)
theorem empC_app {W : World} {N : List Nat} {s : Value} {t : ByteArray} (h : Txt W N s t) (hn : t.size ≤ 1000000) (ty : TypeId) (y : Nat) : ∃ a n C W', (Builtin.append_ #[23, 23] ty #[.slice (some ⟨y, 0, none⟩) 0 0, s]).run Try.prog W = .ok (.slice a n C) W' ∧ FrC W' W.heap.size (.slice a n C) t ∧ Below W.heap.size W W' := by
  obtain ⟨s', W', hr, hF, hB⟩ := fresh_run h hn ty
  obtain ⟨a, C, f, rfl, hA, ht, _⟩ := h
  obtain ⟨i0, hi, hz0, hz1, hz2⟩ := info_parts info_u8
  rcases hA with ⟨h0, hq⟩ | ⟨h0, b, off, rfl, hl⟩
  · refine ⟨some ⟨y, 0, none⟩, 0, 0, W, ?_, .inr ⟨h0, y, rfl⟩, Below.refl _ _⟩
    rw [h0]
    rcases hq with rfl | ⟨p, rfl⟩
    · simp [Builtin.append_, run_underlying Try.underlying23, sizeOf, typeInfo, hi, Builtin.lenOf, Builtin.firstCells, storeCells]
    · simp [Builtin.append_, run_underlying Try.underlying23, sizeOf, typeInfo, hi, Builtin.lenOf, Builtin.firstCells, loadCells, loadCellsFrom, storeCells]
  · obtain ⟨sa, sn, sC, rfl⟩ := hF.sl
    refine ⟨sa, sn, sC, W', ?_, .inl hF, hB⟩
    rw [← hr]
    have hA : ∀ j u, (cl .u8 t.size f)[j]? = some u → W.cell? ((⟨b, off, none⟩ : Addr).add j) = some u := fun j u hj => by obtain ⟨h, rfl⟩ := cl_at' hj; rw [Addr.add_mid]; exact hl.1 j h
    have hrN := run_append_nil (P := Try.prog) W 23 ty 5 i0 (.int .u8 0) Try.underlying23 hi hz0 ⟨b, off, none⟩ t.size C (cl .u8 t.size f) (by rw [cl_len, hz1, Nat.mul_one]) hA h0 (by omega) (by rw [hz2]; omega)
    have hfit : Builtin.nextslicecap (0 + t.size) 0 * i0.bytes ≤ 281474976710656 := growslice_fits (by omega) (by rw [hz2]; omega)
    have hrG := run_append_grow (P := Try.prog) W 23 ty 5 i0 (.int .u8 0) Try.underlying23 hi hz0 ⟨y, 0, none⟩ 0 0 [] (by simp) (fun j u hj => by cases hj) ⟨b, off, none⟩ t.size C (cl .u8 t.size f) (by rw [cl_len, hz1, Nat.mul_one]) hA (by omega) (by omega) hfit
    rw [hrG, hrN]
    simp
theorem eqb_nil (a : Addr) (n c : Nat) (w : World) : (binOp .eql 23 (.slice (some a) n c) (.slice none 0 0)).run Try.prog w = .ok (.bool false) w := by
  have h : (Op.equal 23 (.slice (some a) n c) (.slice none 0 0)).run Try.prog w = .ok false w := run_equal_slice_nil w 23 5 (some a) n c Try.underlying23
  simp only [binOp]
  simp [h]
theorem eqb_nil' (n c : Nat) (w : World) : (binOp .eql 23 (.slice none n c) (.slice none 0 0)).run Try.prog w = .ok (.bool true) w := by
  have h : (Op.equal 23 (.slice none n c) (.slice none 0 0)).run Try.prog w = .ok true w := run_equal_slice_nil w 23 5 none n c Try.underlying23
  simp only [binOp]
  simp [h]
/-- What Clone answers. -/
def ClPost (W : World) (t : ByteArray) (e : Ending) (w' : World) : Prop := ∃ a n C, e = .returned (.slice a n C) ∧ FrC w' W.heap.size (.slice a n C) t ∧ Below W.heap.size W w'
set_option maxRecDepth 100000 in
theorem clone_any {W : World} {N : List Nat} {s : Value} {t : ByteArray} (h : Txt W N s t) (hn : t.size ≤ 1000000) : Calls Try.prog 49 #[s] W (ClPost W t) := by
  have HT := hidIt h
  obtain ⟨a, C, f, rfl, hA, ht, hN⟩ := h
  cases a with
  | none =>
    have z : t.size = 0 := by
      rcases hA with h | ⟨_, b, off, h, _⟩
      · exact h.1
      · cases h
    have R : Hid (ClPost W t (.returned (.slice none 0 0)) W) := hidIt ⟨none, 0, 0, rfl, .inl (.inl ⟨z, rfl⟩), Below.refl _ _⟩
    clear HT hA hN ht hn z
    generalize t.size = n at *
    have Q := eqb_nil' n C W
    go_enter Try.func49, Try.ntmps49
    go_wp2
    go_ret
    exact R.out
  | some q =>
    have A1 : Below W.heap.size W (W.alloc (.cells #[] 5)) := (Below.refl _ _).alloc (Nat.le_refl _) _
    obtain ⟨W1, hW1⟩ : ∃ W1, W1 = W.alloc (.cells #[] 5) := ⟨_, rfl⟩
    have hr0 : ∀ (a : Act) (o : Oper), o.op = .buildSlice 23 0 #[] → (execOp a.eval o).run Try.prog W = .ok (.value (.slice (some ⟨W.heap.size, 0, none⟩) 0 0)) W1 := fun a o ho => by rw [hW1]; exact bs0u_run ho
    rw [← hW1] at A1
    obtain ⟨a', n', C', W2, hr, hF, hB⟩ := empC_app (HT.out.below A1) hn 23 W.heap.size
    have R : Hid (ClPost W t (.returned (.slice a' n' C')) W2) := hidIt ⟨a', n', C', rfl, hF.low A1.size, A1.trans (hB.mono A1.size)⟩
    have HR0 := hidIt hr0
    clear HT hA hN ht hn hF hB A1 hr0 hW1
    generalize t.size = n at *
    have Q := eqb_nil q n C W
    go_enter Try.func49, Try.ntmps49
    go_wp2_with (first
      | (refine wpList_run_w (by rfl) (.slice (some ⟨W.heap.size, 0, none⟩) 0 0) W1 (HR0.out _ _ rfl) ?_)
      | (at_builtin; refine wpList_append_go rfl (.tmp 5) (.tmp 6) 23 23 rfl _ _ rfl rfl hr ?_))
    exact bodyPost_ret (by simp [results, Try.results49, go_sem]) rfl R.out
/-- What copied answers. -/
def CcPost (W : World) (p : Pr) (e : Ending) (w' : World) : Prop := ∃ k v, e = .returned (.agg (PV.mk k v p).cs.toArray) ∧ FrC w' W.heap.size k p.k ∧ FrC w' W.heap.size v p.v ∧ Below W.heap.size W w'
set_option maxRecDepth 100000 in
set_option maxHeartbeats 1000000 in
theorem ucopied_any {W : World} {N : List Nat} {x : PV} (h : PVOk W N x) (hk : x.p.k.size ≤ 1000000) (hv : x.p.v.size ≤ 1000000) : Calls Try.prog 34 #[.agg x.cs.toArray] W (CcPost W x.p) := by
  have HX := hidIt h
  have HK := hidIt (And.intro hk hv)
  clear h hk hv
  go_enter Try.func34, Try.ntmps34
  go_wp2_with (first
    | (refine wpList_box_rec rfl 32 (.tmp 0) rfl x.cs rfl W.heap.size rfl ?_; intro W1 R1 B1 z1; have E1 := hidIt B1; have P1 := hidIt R1; clear R1 B1)
    | (refine wpList_alloc_rec rfl 32 rfl _ (W.heap.size + 1) z1 pair_zero ?_; intro W2 R2 B2 z2; have E2 := hidIt (E1.out.trans (B2.mono (by omega))); have P2 := hidIt (P1.out.below (by rw [z1]; exact B2)); have Q2 := hidIt R2; clear R2 B2 P1 E1 z1))
  refine wp_region_noPanic ?_
  refine wp_region_held_drew (S := fun w' => w'.cell? ⟨W.heap.size, 0, none⟩ = some x.k ∧ w'.cell? ⟨W.heap.size, 1, none⟩ = some x.v ∧ w'.cell? ⟨W.heap.size, 2, none⟩ = some (.bool x.p.g)) (by kernel_rfl) ?_ (fun hHeld => ?_)
  · exact ⟨(P2.out.cel 0 _ rfl).1, (P2.out.cel 1 _ rfl).1, (P2.out.cel 2 _ rfl).1⟩
  refine take_at (i := 0) (v := ?_) (some 3) rfl rfl (by kernel_rfl) (by kernel_rfl) (by kernel_rfl) (fun _ _ _ h => h) (Or.inl ⟨by rfl, ?_⟩) (by assumption) ?_
  rotate_left
  · (intro w hSw; (try dsimp only at hSw); go_simp; try with_reducible rfl)
  simp only [Act.put, List.setIfInBounds_toArray, List.set_cons_zero, List.set_cons_succ]
  refine take_at (i := 1) (v := ?_) (some 4) rfl rfl (by kernel_rfl) (by kernel_rfl) (by kernel_rfl) (fun _ _ _ h => h) (Or.inl ⟨by rfl, ?_⟩) (by assumption) ?_
  rotate_left
  · (intro w hSw; (try dsimp only at hSw); go_simp; try with_reducible rfl)
  simp only [Act.put, List.setIfInBounds_toArray, List.set_cons_zero, List.set_cons_succ]
  refine take_at (i := 3) (v := ?_) (some 6) rfl rfl (by kernel_rfl) (by kernel_rfl) (by kernel_rfl) (fun _ _ _ h => h) (Or.inl ⟨by rfl, ?_⟩) (by assumption) ?_
  rotate_left
  · (intro w hSw; (try dsimp only at hSw); go_simp; try with_reducible rfl)
  simp only [Act.put, List.setIfInBounds_toArray, List.set_cons_zero, List.set_cons_succ]
  refine take_at (i := 4) (v := ?_) (some 7) rfl rfl (by kernel_rfl) (by kernel_rfl) (by kernel_rfl) (fun _ _ _ h => h) (Or.inl ⟨by rfl, ?_⟩) (by assumption) ?_
  rotate_left
  · (intro w hSw; (try dsimp only at hSw); go_simp; try with_reducible rfl)
  simp only [Act.put, List.setIfInBounds_toArray, List.set_cons_zero, List.set_cons_succ]
  refine take_at (i := 6) (v := ?_) (some 9) rfl rfl (by kernel_rfl) (by kernel_rfl) (by kernel_rfl) (fun _ _ _ h => h) (Or.inl ⟨by rfl, ?_⟩) (by assumption) ?_
  rotate_left
  · (intro w hSw; (try dsimp only at hSw); go_simp; try with_reducible rfl)
  simp only [Act.put, List.setIfInBounds_toArray, List.set_cons_zero, List.set_cons_succ]
  refine take_at (i := 7) (v := ?_) (some 10) rfl rfl (by kernel_rfl) (by kernel_rfl) (by kernel_rfl) (fun _ _ _ h => h) (Or.inl ⟨by rfl, ?_⟩) (by assumption) ?_
  rotate_left
  · (intro w hSw; (try dsimp only at hSw); go_simp; try with_reducible rfl)
  simp only [Act.put, List.setIfInBounds_toArray, List.set_cons_zero, List.set_cons_succ]
  refine call_at (i := 2) (some 5) 49 _ _ rfl rfl rfl (by rfl) (by kernel_rfl) #[x.k] rfl Try.func49 (by kernel_rfl) (by kernel_rfl) ?_
  refine (clone_any ((HX.out.1.below E2.out).below (Below.refl _ _).drew) HK.out.1).mono ?_
  rintro e W3 ⟨ka, kn, kC, rfl, F3, B3⟩
  have zz : W2.drew.heap.size = W.heap.size + 1 + 1 := z2
  have P3 := hidIt ((P2.out.below (Below.refl _ _).drew).below B3)
  have Q3 := hidIt ((Q2.out.below (Below.refl _ _).drew).below B3)
  have E3 := hidIt (E2.out.drew.trans (B3.mono (by omega)))
  have G3 := hidIt (F3.low (base' := W.heap.size + 1 + 1) (by omega))
  have s3 := hidIt B3.size
  clear F3 B3 P2 Q2
  refine ⟨_, rfl, ⟨(P3.out.cel 0 _ rfl).1, (P3.out.cel 1 _ rfl).1, (P3.out.cel 2 _ rfl).1⟩, fun hHeld => ?_⟩
  simp only [Act.put, List.setIfInBounds_toArray, List.set_cons_zero, List.set_cons_succ]
  refine call_at (i := 5) (some 8) 49 _ _ rfl rfl rfl (by rfl) (by kernel_rfl) #[x.v] rfl Try.func49 (by kernel_rfl) (by kernel_rfl) ?_
  refine (clone_any (HX.out.2.below E3.out) HK.out.2).mono ?_
  rintro e W4 ⟨va, vn, vC, rfl, F4, B4⟩
  have P4 := hidIt (P3.out.below B4)
  have Q4 := hidIt (Q3.out.below B4)
  have E4 := hidIt (E3.out.trans (B4.mono E3.out.size))
  have G4 := hidIt (G3.out.below B4)
  have F4' := hidIt (F4.low (base' := W.heap.size + 1 + 1) (by have := s3.out; omega))
  clear F4 B4 P3 Q3 G3
  refine ⟨_, rfl, ⟨(P4.out.cel 0 _ rfl).1, (P4.out.cel 1 _ rfl).1, (P4.out.cel 2 _ rfl).1⟩, fun hHeld => ?_⟩
  simp only [Act.put, List.setIfInBounds_toArray, List.set_cons_zero, List.set_cons_succ]
  refine take_at (i := 8) (v := .agg (PV.mk (.slice ka kn kC) (.slice va vn vC) x.p).cs.toArray) (some 11) rfl rfl (by kernel_rfl) (by kernel_rfl) (by kernel_rfl) (fun _ _ _ h => h) (Or.inl ⟨by rfl, ?_⟩) (by assumption) ?_
  · intro w hSw
    exact bld_run 32 _ rfl _ (by kernel_rfl)
  simp only [Act.put, List.setIfInBounds_toArray, List.set_cons_zero, List.set_cons_succ]
  obtain ⟨W5, hr5, R5, B5⟩ := Q4.out.run_store 32 (PV.mk (.slice ka kn kC) (.slice va vn vC) x.p).cs rfl pair_size (by
    intro u hu
    simp only [PV.cs, List.mem_cons, List.not_mem_nil, or_false] at hu
    rcases hu with rfl | rfl | rfl
    · exact (G4.out.txt (N := []) (fun _ h => by cases h)).one
    · exact (F4'.out.txt (N := []) (fun _ h => by cases h)).one
    · rfl)
  have P5 := hidIt (P4.out.but B5 (by omega))
  have FIN : Hid (CcPost W x.p (.returned (.agg (PV.mk (.slice ka kn kC) (.slice va vn vC) x.p).cs.toArray)) W5) := ⟨_, _, rfl, (G4.out.off (Off.but (bs := [W.heap.size + 1]) B5 (by simp)) (by simp)).low (by omega), (F4'.out.off (Off.but (bs := [W.heap.size + 1]) B5 (by simp)) (by simp)).low (by omega), E4.out.trans (B5.below (by omega) E4.out.size)⟩
  have RR := hidIt R5
  refine mute_at (i := 9) none rfl rfl (by rfl) (by kernel_rfl) W5 (put_mute 32 (.tmp 2) (.tmp 11) rfl _ _ rfl rfl hr5) ⟨(P5.out.cel 0 _ rfl).1, (P5.out.cel 1 _ rfl).1, (P5.out.cel 2 _ rfl).1⟩ (fun hHeld => ?_)
  simp only [Act.put]
  refine wpAnyH_done (by kernel_rfl) ?_ _
  refine NoPanic.normal ?_
  go_wp2_with fail
  have hl := RR.out.run_load 32 _ Try.underlying32 rfl pair_size
  exact bodyPost_ret (v := .agg (PV.mk (.slice ka kn kC) (.slice va vn vC) x.p).cs.toArray) (by simp [results, Try.results34, asAddr, hl]) rfl FIN.out
end Go.Proofs.Ytnocjhefkkfanaa
