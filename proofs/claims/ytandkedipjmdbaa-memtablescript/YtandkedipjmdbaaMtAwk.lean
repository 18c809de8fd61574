/-
  Walks, not a claim by itself: the statements' own pairs and table. By the verifier.
-/
import Derived.Test.YtandkedipjmdbaaMtKit
namespace Go.Proofs.Ytandkedipjmdbaa
open Go.RowKit
section
variable {ops : Array Oper} {rest : List Oper} {o : Oper} {a : Act} {w : World} {Q : Exit → Act → World → Prop}
/-- An operation whose run is known. -/
theorem wpList_run_w (hw : Region.wanted o (yielded ops a.tmps) = true) (v : Value) (w' : World) (hx : (execOp a.eval o).run Try.prog w = .ok (.value v) w') (hK : wpList Try.prog ops Q rest (a.put o.dst v) w') : wpList Try.prog ops Q (o :: rest) a w := by
  refine wpList_step fun K hK' => ?_
  rw [if_pos hw]
  unfold Oper.wp
  rw [hx]
  exact hK' _ _ hK
/-- A literal of one byte. -/
theorem wpList_lit (hw : Region.wanted o (yielded ops a.tmps) = true) (c : Int) (ho : o.op = .buildSlice 33 1 #[(0, .const (.int .u8 c))])
    (hK : ∀ W', W'.heap[w.heap.size]? = some (.cells #[.int .u8 c] 5 (0, 0)) → Below w.heap.size w W' → W'.heap.size = w.heap.size + 1 → wpList Try.prog ops Q rest (a.put o.dst (.slice (some ⟨w.heap.size, 0, none⟩) 1 1)) W') : wpList Try.prog ops Q (o :: rest) a w :=
  wpList_run_w hw _ _ (bsl_run 33 5 1 _ ho 1 1 _ #[.int .u8 c] [(0, .int .u8 c)] Try.underlying33 info_u8 (by decide) (by decide) (by simp [Act.eval]) (by kernel_rfl)) (hK _ (heap_alloc_new w _) ((Below.refl _ _).alloc (Nat.le_refl _) _) (by simp))
theorem convL (u : World) (y n c : Nat) (C : Array Value) (fz : Nat × Nat) (hy : u.heap[y]? = some (.cells C 5 fz)) : ∃ u', (convert 33 33 (.slice (some ⟨y, 0, none⟩) n c)).run Try.prog u = .ok (.slice (some ⟨y, 0, none⟩) n c) u' ∧ But y u u' ∧ ∃ fz', u'.heap[y]? = some (.cells C 5 fz') := by
  have hsh : u.shape? y = some (5, C.size) := by
    unfold World.shape?
    rw [hy]
  refine ⟨u.freeze ⟨y, C.size, none⟩ 1, ?_, ?_, ?_⟩
  · simp [convert, run_underlying Try.underlying33, run_underlying Try.underlying5, markStringish, hsh]
  · unfold World.freeze
    rw [if_neg (by decide)]
    refine ⟨rfl, rfl, rfl, by simp, fun k hk hn => ?_⟩
    simp only [Array.getElem?_modify]
    rw [if_neg (fun e => hn e.symm)]
  · unfold World.freeze
    rw [if_neg (by decide)]
    simp only [Array.getElem?_modify, if_true, hy]
    exact ⟨_, rfl⟩
/-- Its conversion. -/
theorem wpList_conv (hw : Region.wanted o (yielded ops a.tmps) = true) (x : Operand) (ho : o.op = .convert 33 33 x) (y : Nat) (c : Int) (hc : 0 ≤ c ∧ c < 256) (hx : a.eval x = .slice (some ⟨y, 0, none⟩) 1 1) (hy : w.heap[y]? = some (.cells #[.int .u8 c] 5 (0, 0)))
    (hK : ∀ W', But y w W' → Txt W' [] (.slice (some ⟨y, 0, none⟩) 1 1) (txtN 1 (fun _ => c)) → wpList Try.prog ops Q rest (a.put o.dst (.slice (some ⟨y, 0, none⟩) 1 1)) W') : wpList Try.prog ops Q (o :: rest) a w := by
  obtain ⟨u', hr, hB, fz, hu⟩ := convL w y 1 1 _ _ hy
  refine wpList_run_w hw _ u' (by unfold execOp; simp only [ho, hx, Sem.run_bind, hr, Result.andThen_ok]; rfl) (hK u' hB ?_)
  refine Txt.of (.inr ⟨by omega, y, 0, rfl, fun j hj => ?_, fun _ _ => hc, (Array.getElem?_eq_some_iff.1 hu).1⟩)
  obtain rfl : j = 0 := by omega
  rw [cell_of_row _ _ _ _ _ _ hu]
  rfl
end
/-- A text as bytes. -/
theorem conv_txt (W : World) (s : ByteArray) (N : List Nat) (hN : ∀ b, b ∈ N → b < W.heap.size) : ∃ cap W', (convert 9 33 (.string s)).run Try.prog W = .ok (.slice (some ⟨W.heap.size, 0, none⟩) s.size cap) W' ∧ Txt W' N (.slice (some ⟨W.heap.size, 0, none⟩) s.size cap) s ∧ Below W.heap.size W W' := by
  refine ⟨_, _, run_bytes_of_string (P := Try.prog) W 9 33 5 s Try.underlying9 Try.underlying33 Try.underlying5, ?_, (Below.refl _ _).drew.alloc (Nat.le_refl _) _⟩
  refine ⟨_, _, fun j => ((s.data.toList[j]?.getD 0).toNat : Int), rfl, ?_, ?_, fun _ q hq h => by injection hq with hq; subst hq; have := hN _ h; simp at this⟩
  · by_cases h0 : s.size = 0
    · exact .inl ⟨h0, .inr ⟨_, rfl⟩⟩
    · refine .inr ⟨by omega, W.heap.size, 0, rfl, fun j hj => ?_, fun j _ => (show (0 : Int) ≤ ((s.data.toList[j]?.getD 0).toNat : Int) ∧ ((s.data.toList[j]?.getD 0).toNat : Int) < 256 from ⟨by omega, by have := (s.data.toList[j]?.getD 0).toNat_lt; omega⟩), by simp⟩
      show (W.drew.alloc _).cell? ⟨W.drew.heap.size, 0 + j, none⟩ = _
      rw [cell_of_row _ _ _ _ _ _ (heap_alloc_new _ _), Nat.zero_add]
      have hj' : j < s.data.size := hj
      have := bytesRow_at s (grownCap W s.size 0 5) j hj
      rw [this]
      simp only [Array.getElem?_toList]
      rw [Array.getElem?_eq_getElem hj']
      rfl
  · apply ByteArray.ext
    apply Array.toList_inj.1
    apply List.ext_getElem?
    intro j
    by_cases hj : j < s.size
    · rw [txtN_at _ _ j hj]
      have hj' : j < s.data.toList.length := by rw [Array.length_toList]; exact hj
      rw [List.getElem?_eq_getElem hj']
      simp
    · rw [List.getElem?_eq_none (by have : (txtN s.size fun j => ((s.data.toList[j]?.getD 0).toNat : Int)).data.toList.length = s.size := (by rw [Array.length_toList]; exact txtN_size _ _); omega), List.getElem?_eq_none (by rw [Array.length_toList]; exact Nat.not_lt.1 hj)]
/-- What is and gone answer. -/
def IsPost (W : World) (p : Pr) (e : Ending) (w' : World) : Prop := ∃ a n C b m D, e = .returned (.agg (PV.mk (.slice a n C) (.slice b m D) p).cs.toArray) ∧ PVOk w' [] ⟨.slice a n C, .slice b m D, p⟩ ∧ Below W.heap.size W w'
set_option maxRecDepth 100000 in
theorem is_any (W : World) (k v : ByteArray) : Calls Try.prog 30 #[.string k, .string v] W (IsPost W ⟨k, v, false⟩) := by
  go_enter Try.func30, Try.ntmps30
  go_wp2_with (first
    | (refine wpList_alloc_rec rfl 47 rfl _ W.heap.size rfl pair_zero ?_; intro W1 R1 B1 z1; obtain ⟨c1, W2, hr2, T2, B2⟩ := conv_txt W1 k [W.heap.size] (by simp; omega); obtain ⟨c2, W3, hr3, T3, B3⟩ := conv_txt W2 v [W.heap.size] (by simp; have := B2.size; omega); have B13 := B2.trans (B3.mono B2.size); have P3 := hidIt (R1.below B13); have E3 := hidIt (B1.trans (B13.mono (by omega))); have X3 := hidIt (And.intro (T2.below B3) T3); have Z := hidIt (And.intro z1 B2.size); clear R1 B1 z1 T2 T3 B2 B3 B13)
    | (refine wpList_run_w rfl _ W2 (show (execOp _ _).run Try.prog _ = _ by unfold execOp; simp only [Act.eval]; simp [hr2, Result.andThen]) ?_; clear hr2)
    | (refine wpList_run_w rfl _ W3 (show (execOp _ _).run Try.prog _ = _ by unfold execOp; simp only [Act.eval]; simp [hr3, Result.andThen]) ?_; clear hr3)
    | (refine wpList_store_rec rfl 47 (.tmp 4) (.tmp 9) rfl W.heap.size 0 _ (PV.mk (.slice (some ⟨W1.heap.size, 0, none⟩) k.size c1) (.slice (some ⟨W2.heap.size, 0, none⟩) v.size c2) ⟨k, v, false⟩).cs rfl rfl P3.out rfl pair_size (by intro u hu; simp only [PV.cs, List.mem_cons, List.not_mem_nil, or_false] at hu; rcases hu with rfl | rfl | rfl <;> rfl) ?_; intro W4 R4 B4; have P4 := hidIt R4; have E4 := hidIt (And.intro (E3.out.trans (B4.below (Nat.le_refl _) E3.out.size)) B4); clear R4 B4))
  have hl := P4.out.run_load 47 _ Try.underlying47 rfl pair_size
  have O4 : Off [W.heap.size] W3 W4 := Off.but E4.out.2 (by simp)
  exact bodyPost_ret (v := .agg (PV.mk (.slice (some ⟨W1.heap.size, 0, none⟩) k.size c1) (.slice (some ⟨W2.heap.size, 0, none⟩) v.size c2) ⟨k, v, false⟩).cs.toArray) (by simp [results, Try.results30, asAddr, Act.put, hl]) rfl ⟨_, _, _, _, _, _, rfl, ⟨(X3.out.1.off O4).any, (X3.out.2.off O4).any⟩, E4.out.1⟩
set_option maxRecDepth 100000 in
theorem gone_any (W : World) (k : ByteArray) : Calls Try.prog 29 #[.string k] W (IsPost W ⟨k, .empty, true⟩) := by
  go_enter Try.func29, Try.ntmps29
  go_wp2_with (first
    | (refine wpList_alloc_rec rfl 47 rfl _ W.heap.size rfl pair_zero ?_; intro W1 R1 B1 z1; obtain ⟨c1, W2, hr2, T2, B2⟩ := conv_txt W1 k [W.heap.size] (by simp; omega); have P3 := hidIt (R1.below B2); have E3 := hidIt (B1.trans (B2.mono (by omega))); have X3 := hidIt T2; clear R1 B1 z1 T2 B2)
    | (refine wpList_store_rec rfl 47 (.tmp 2) (.tmp 5) rfl W.heap.size 0 _ (PV.mk (.slice (some ⟨W1.heap.size, 0, none⟩) k.size c1) (.slice none 0 0) ⟨k, .empty, true⟩).cs rfl rfl P3.out rfl pair_size (by intro u hu; simp only [PV.cs, List.mem_cons, List.not_mem_nil, or_false] at hu; rcases hu with rfl | rfl | rfl <;> rfl) ?_; intro W4 R4 B4; have P4 := hidIt R4; have E4 := hidIt (And.intro (E3.out.trans (B4.below (Nat.le_refl _) E3.out.size)) B4); clear R4 B4))
  have hl := P4.out.run_load 47 _ Try.underlying47 rfl pair_size
  have O4 : Off [W.heap.size] W2 W4 := Off.but E4.out.2 (by simp)
  exact bodyPost_ret (v := .agg (PV.mk (.slice (some ⟨W1.heap.size, 0, none⟩) k.size c1) (.slice none 0 0) ⟨k, .empty, true⟩).cs.toArray) (by simp [results, Try.results29, asAddr, Act.put, hl]) rfl ⟨_, _, _, _, _, _, rfl, ⟨(X3.out.off O4).any, Txt.nil _ _ _⟩, E4.out.1⟩
/-- A text of one byte. -/
def b1 (c : Int) : ByteArray := txtN 1 (fun _ => c)
/-- The chapter's table behind its first row. -/
def L3 : List Pr := [⟨b1 97, b1 50, false⟩, ⟨b1 98, b1 49, false⟩, ⟨b1 99, .empty, true⟩]
theorem tab_new {H t : Nat} {v : Value} (h : ∀ g, v.ownBlock = some g → H ≤ g) (ht : H ≤ t := by exact Nat.le_refl _) : ∀ b, b ∈ t :: v.ownBlock.toList → H ≤ b := fun b hb => by
  rcases List.mem_cons.1 hb with rfl | hb
  · exact ht
  · cases e : v.ownBlock with
    | none => rw [e] at hb; cases hb
    | some g => rw [e] at hb; simp at hb; subst hb; exact h _ e
/-- What three answers. -/
def ThreePost (W : World) (e : Ending) (w' : World) : Prop := ∃ t v ps, e = .returned (.pointer (some ⟨t, 0, none⟩)) ∧ W.heap.size ≤ t ∧ (∀ g, v.ownBlock = some g → W.heap.size ≤ g) ∧ Tab w' t v ps ∧ ps.map PV.p = L3 ∧ Below W.heap.size W w'
theorem lay1 : layC [] ⟨b1 98, b1 49, false⟩ = 0 ∧ layR [] ⟨b1 98, b1 49, false⟩ = [⟨b1 98, b1 49, false⟩] := by decide
theorem lay2 : layC [⟨b1 98, b1 49, false⟩] ⟨b1 97, b1 50, false⟩ = 0 ∧ layR [⟨b1 98, b1 49, false⟩] ⟨b1 97, b1 50, false⟩ = [⟨b1 97, b1 50, false⟩, ⟨b1 98, b1 49, false⟩] := by decide
theorem lay3 : layC [⟨b1 97, b1 50, false⟩, ⟨b1 98, b1 49, false⟩] ⟨b1 99, .empty, true⟩ = 0 ∧ layR [⟨b1 97, b1 50, false⟩, ⟨b1 98, b1 49, false⟩] ⟨b1 99, .empty, true⟩ = L3 := by decide
set_option maxRecDepth 100000 in
set_option maxHeartbeats 2000000 in
theorem three_any (W : World) : Calls Try.prog 28 #[] W (ThreePost W) := by
  go_enter Try.func28, Try.ntmps28
  go_wp2_with (first
    | (go_at_call 9; refine (tnew_any W).mono ?_; rintro e W1 ⟨rfl, h1, h2⟩; have T1 := hidIt h1; have G1 := hidIt h2; clear h1 h2)
    | (refine wpList_lit rfl 98 rfl ?_; intro X1a ha hb hz; have A1 := hidIt ha; have D1 := hidIt (And.intro hb hz); clear ha hb hz)
    | (refine wpList_conv rfl (.tmp 4) rfl W1.heap.size 98 (by decide) rfl A1.out ?_; intro X1b hb ht; have bb : Below W1.heap.size W1 X1b := D1.out.1.trans (hb.below (Nat.le_refl _) D1.out.1.size); have E1 := hidIt (bb); have S1 := hidIt ht; clear hb ht bb A1 D1)
    | (refine wpList_lit rfl 49 rfl ?_; intro X2a ha hb hz; have A2 := hidIt ha; have D2 := hidIt (And.intro hb hz); clear ha hb hz)
    | (refine wpList_conv rfl (.tmp 6) rfl X1b.heap.size 49 (by decide) rfl A2.out ?_; intro X2b hb ht; have bb : Below X1b.heap.size X1b X2b := D2.out.1.trans (hb.below (Nat.le_refl _) D2.out.1.size); have E2 := hidIt (E1.out.trans (bb.mono E1.out.size)); have S2 := hidIt ht; have S1' := hidIt (S1.out.below bb); clear S1; have S1 := S1'; clear S1'; clear hb ht bb A2 D2)
    | (go_at_call 24; have _q := S2; clear _q; refine (tput_ok (T1.out.below E2.out) S1.out S2.out).mono ?_; rintro e W2 ⟨v2, ps2, rfl, h1, h2, h3, h4⟩; rw [show layC (List.map PV.p []) ⟨txtN 1 fun _ => 98, txtN 1 fun _ => 49, false⟩ = 0 from lay1.1]; have T2 := hidIt h1; have M2 : Hid (ps2.map PV.p = [⟨b1 98, b1 49, false⟩]) := hidIt (h2.trans lay1.2); have G2 := hidIt (G1.out.trans ((Below.trans (E2.out.mono G1.out.size) (h3.below (by simp [Value.ownBlock]) (Nat.le_trans G1.out.size E2.out.size))))); have V2 : Hid (∀ g, v2.ownBlock = some g → W.heap.size ≤ g) := hidIt (fun g hg => by rcases h4.1 g hg with q | q; cases q; exact Nat.le_trans (Nat.le_trans G1.out.size E2.out.size) q); clear h1 h2 h3 h4 S1 S2 E1 E2 T1 G1)
    | (refine wpList_lit rfl 97 rfl ?_; intro X3a ha hb hz; have A3 := hidIt ha; have D3 := hidIt (And.intro hb hz); clear ha hb hz)
    | (refine wpList_conv rfl (.tmp 12) rfl W2.heap.size 97 (by decide) rfl A3.out ?_; intro X3b hb ht; have bb : Below W2.heap.size W2 X3b := D3.out.1.trans (hb.below (Nat.le_refl _) D3.out.1.size); have E3 := hidIt (bb); have S3 := hidIt ht; clear hb ht bb A3 D3)
    | (refine wpList_lit rfl 50 rfl ?_; intro X4a ha hb hz; have A4 := hidIt ha; have D4 := hidIt (And.intro hb hz); clear ha hb hz)
    | (refine wpList_conv rfl (.tmp 14) rfl X3b.heap.size 50 (by decide) rfl A4.out ?_; intro X4b hb ht; have bb : Below X3b.heap.size X3b X4b := D4.out.1.trans (hb.below (Nat.le_refl _) D4.out.1.size); have E4 := hidIt (E3.out.trans (bb.mono E3.out.size)); have S4 := hidIt ht; have S3' := hidIt (S3.out.below bb); clear S3; have S3 := S3'; clear S3'; clear hb ht bb A4 D4)
    | (go_at_call 24; refine (tput_ok (T2.out.below E4.out) S3.out S4.out).mono ?_; rintro e W3 ⟨v3, ps3, rfl, h1, h2, h3, h4⟩; rw [M2.out] at h2 ⊢; rw [show layC [⟨b1 98, b1 49, false⟩] ⟨txtN 1 fun _ => 97, txtN 1 fun _ => 50, false⟩ = 0 from lay2.1]; have T3 := hidIt h1; have M3 : Hid (ps3.map PV.p = [⟨b1 97, b1 50, false⟩, ⟨b1 98, b1 49, false⟩]) := hidIt (h2.trans lay2.2); have G3 := hidIt (G2.out.trans ((Below.trans (E4.out.mono G2.out.size) (h3.below (tab_new V2.out) (Nat.le_trans G2.out.size E4.out.size))))); have V3 : Hid (∀ g, v3.ownBlock = some g → W.heap.size ≤ g) := hidIt (fun g hg => by rcases h4.1 g hg with q | q; exact V2.out g q; exact Nat.le_trans (Nat.le_trans G2.out.size E4.out.size) q); clear h1 h2 h3 h4 S3 S4 E3 E4 T2 G2 M2 V2)
    | (refine wpList_lit rfl 99 rfl ?_; intro X5a ha hb hz; have A5 := hidIt ha; have D5 := hidIt (And.intro hb hz); clear ha hb hz)
    | (refine wpList_conv rfl (.tmp 21) rfl W3.heap.size 99 (by decide) rfl A5.out ?_; intro X5b hb ht; have bb : Below W3.heap.size W3 X5b := D5.out.1.trans (hb.below (Nat.le_refl _) D5.out.1.size); have E5 := hidIt (bb); have S5 := hidIt ht; clear hb ht bb A5 D5)
    | (go_at_call 25; refine (tremove_ok (T3.out.below E5.out) S5.out).mono ?_; rintro e W4 ⟨v4, ps4, rfl, h1, h2, h3, h4⟩; rw [M3.out] at h2 ⊢; rw [show layC [⟨b1 97, b1 50, false⟩, ⟨b1 98, b1 49, false⟩] ⟨txtN 1 fun _ => 99, .empty, true⟩ = 0 from lay3.1]; have T4 := hidIt h1; have M4 : Hid (ps4.map PV.p = L3) := hidIt (h2.trans lay3.2); have G4 := hidIt (G3.out.trans ((Below.trans (E5.out.mono G3.out.size) (h3.below (tab_new V3.out) (Nat.le_trans G3.out.size E5.out.size))))); have V4 : Hid (∀ g, v4.ownBlock = some g → W.heap.size ≤ g) := hidIt (fun g hg => by rcases h4.1 g hg with q | q; exact V3.out g q; exact Nat.le_trans (Nat.le_trans G3.out.size E5.out.size) q); clear h1 h2 h3 h4 S5 E5 T3 G3 M3 V3))
  exact bodyPost_ret (v := .pointer (some ⟨W.heap.size, 0, none⟩)) (by simp [results, Try.results28, go_sem]) rfl ⟨W.heap.size, v4, ps4, rfl, Nat.le_refl _, V4.out, T4.out, M4.out, G4.out⟩
end Go.Proofs.Ytandkedipjmdbaa
