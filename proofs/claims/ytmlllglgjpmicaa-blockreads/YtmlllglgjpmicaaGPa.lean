/-
  Walks, not a claim by itself: the reference's put and at. By the verifier.
-/
import Derived.Test.YtmlllglgjpmicaaGVal
import Derived.Test.YtmlllglgjpmicaaNGrow
namespace Go.Proofs.Ytmlllglgjpmicaa
open Go.RowKit
theorem byt4 (x : Int) : IntKind.u8.wrap x = byt x 0 ∧ IntKind.u8.wrap (x / 256) = byt x 1 ∧ IntKind.u8.wrap (x / 65536) = byt x 2 ∧ IntKind.u8.wrap (x / 16777216) = byt x 3 := by
  unfold byt up8
  simp only [IntKind.wrap_u8]
  simp
  try omega
theorem Own.shape {w : World} {base : Nat} {v : Value} {n : Nat} {F : Nat → Int} (h : Own w base v n F) : ∃ q cap, v = .slice q n cap := by
  rcases h.2 with ⟨e, h0⟩ | ⟨g, cap, cur, e, _⟩
  · exact ⟨none, 0, by rw [e, h0]⟩
  · exact ⟨_, cap, e⟩
/-- Four bytes that are made. -/
theorem four_arg (V : World) (x c0 c1 c2 c3 : Int) (h0 : c0 = byt x 0) (h1 : c1 = byt x 1) (h2 : c2 = byt x 2) (h3 : c3 = byt x 3) : Arg (V.alloc (.cells #[.int .u8 c0, .int .u8 c1, .int .u8 c2, .int .u8 c3] 5)) (some ⟨V.heap.size, 0, none⟩) 4 (byt x) := Arg.of ⟨fun q hq => by
    rw [Nat.zero_add, cell_of_row _ _ _ _ _ _ (heap_alloc_new _ _)]
    match q, hq with
    | 0, _ => rw [h0]; rfl
    | 1, _ => rw [h1]; rfl
    | 2, _ => rw [h2]; rfl
    | 3, _ => rw [h3]; rfl
    | q + 4, hq => omega, fun q _ => byt_byte _ _, by simp⟩
set_option maxRecDepth 100000 in
set_option maxHeartbeats 1000000 in
/-- The reference's put, whatever append does. -/
theorem rput_gen (v : Value) (x : Int) (w : World) (P : Value → World → Prop) (hv : ∃ q n cap, v = .slice q n cap)
    (ha : ∀ c0 c1 c2 c3, c0 = byt x 0 → c1 = byt x 1 → c2 = byt x 2 → c3 = byt x 3 → ∃ v' W', (Builtin.append_ #[25, 25] 25 #[v, .slice (some ⟨w.heap.size, 0, none⟩) 4 4]).run Try.prog (w.alloc (.cells #[.int .u8 c0, .int .u8 c1, .int .u8 c2, .int .u8 c3] 5)) = .ok v' W' ∧ P v' W') :
    Calls Try.prog 41 #[v, .int .i64 x] w fun e w' => ∃ v', e = .returned v' ∧ P v' w' := by
  obtain ⟨b0, b1, b2, b3⟩ := byt4 x
  obtain ⟨q, n, cap, rfl⟩ := hv
  obtain ⟨v', W', h1, h2⟩ := ha _ _ _ _ b0 b1 b2 b3
  have PP := hidIt h2
  clear ha b0 b1 b2 b3 h2
  go_enter Try.func41, Try.ntmps41
  go_wp2_with (at_builtin; refine wpList_append_go rfl (.tmp 5) (.tmp 17) 25 25 rfl _ _ rfl rfl h1 ?_)
  go_ret
  exact ⟨_, rfl, PP.out⟩
/-- Onto bytes that were made behind base. -/
theorem rput_own (v : Value) (n base : Nat) (F : Nat → Int) (x : Int) (w : World) (ho : Own w base v n F) (hb : base ≤ w.heap.size) (hn : n ≤ 100000) :
    Calls Try.prog 41 #[v, .int .i64 x] w fun e w' => ∃ v', e = .returned v' ∧ Own w' base v' (n + 4) (cat F n (byt x)) ∧ Below base w w' := by
  refine rput_gen v x w _ (by obtain ⟨q, cap, e⟩ := ho.shape; exact ⟨q, n, cap, e⟩) fun c0 c1 c2 c3 h0 h1 h2 h3 => ?_
  have BA : Below w.heap.size w (w.alloc (.cells #[.int .u8 c0, .int .u8 c1, .int .u8 c2, .int .u8 c3] 5)) := (Below.refl _ _).alloc (Nat.le_refl _) _
  obtain ⟨v', W', k1, k2, k3⟩ := app_arg 25 _ base n 4 4 v _ F (byt x) (ho.below BA) (four_arg w x c0 c1 c2 c3 h0 h1 h2 h3) (by omega) (by have := BA.size; omega)
  exact ⟨v', W', k1, k2, (BA.mono hb).trans k3⟩
/-- Onto bytes in block g: all other blocks stay. -/
theorem rput_but (g cap n base : Nat) (F : Nat → Int) (x : Int) (w : World) (ho : Own w base (.slice (some ⟨g, 0, none⟩) n cap) n F) (hb : base ≤ w.heap.size) (hn : n ≤ 100000) :
    Calls Try.prog 41 #[.slice (some ⟨g, 0, none⟩) n cap, .int .i64 x] w fun e w' => ∃ v', e = .returned v' ∧ GrowP w g base (n + 4) (cat F n (byt x)) v' w' := by
  refine rput_gen _ x w _ ⟨_, _, _, rfl⟩ fun c0 c1 c2 c3 h0 h1 h2 h3 => ?_
  have BA : Below w.heap.size w (w.alloc (.cells #[.int .u8 c0, .int .u8 c1, .int .u8 c2, .int .u8 c3] 5)) := (Below.refl _ _).alloc (Nat.le_refl _) _
  obtain ⟨v', W', k1, k2⟩ := app_but 25 _ base n 4 4 g cap _ F (byt x) (ho.below BA) (by omega) (four_arg w x c0 c1 c2 c3 h0 h1 h2 h3) (by omega) (by have := BA.size; omega)
  exact ⟨v', W', k1, k2.next (.inl rfl) (But.of BA)⟩
theorem at_sum (f : Nat → Int) : f 0 + f 1 * 256 + f 2 * 65536 + f 3 * 16777216 = ps f 4 := by
  simp only [ps]
  omega
set_option maxRecDepth 100000 in
set_option maxHeartbeats 1000000 in
theorem at_any (b off n C k : Nat) (F : Nat → Int) (w : World) (h : Lies w b off n F) (hk : k + 3 < n) (hn : n ≤ 100000) : Calls Try.prog 35 #[.slice (some ⟨b, off, none⟩) n C, .int .i64 (k : Int)] w fun e w' => e = .returned (.int .i64 (ps (fun j => F (k + j)) 4)) ∧ Below w.heap.size w w' := by
  rw [← at_sum]
  simp only [Nat.add_zero]
  have c0 := h.1 k (by omega)
  have c1 := h.1 (k + 1) (by omega)
  have c2 := h.1 (k + 2) (by omega)
  have c3 := h.1 (k + 3) (by omega)
  have b0 := h.2.1 k (by omega)
  have b1 := h.2.1 (k + 1) (by omega)
  have b2 := h.2.1 (k + 2) (by omega)
  have b3 := h.2.1 (k + 3) (by omega)
  clear h
  generalize F k = f0 at *
  generalize F (k + 1) = f1 at *
  generalize F (k + 2) = f2 at *
  generalize F (k + 3) = f3 at *
  go_enter Try.func35, Try.ntmps35
  go_wp2_with fail
  have k1 : (k : Int) + 3 < (n : Int) := by omega
  have k2 : (0 : Int) ≤ (k : Int) := by omega
  have w1 : IntKind.i64.wrap ((k : Int) + 1) = (k : Int) + 1 := by simp only [IntKind.wrap_i64]; omega
  have w2 : IntKind.i64.wrap ((k : Int) + 2) = (k : Int) + 2 := by simp only [IntKind.wrap_i64]; omega
  have w3 : IntKind.i64.wrap ((k : Int) + 3) = (k : Int) + 3 := by simp only [IntKind.wrap_i64]; omega
  have p1 : (0 : Int) ≤ (k : Int) + 1 := by omega
  have p2 : (0 : Int) ≤ (k : Int) + 2 := by omega
  have p3 : (0 : Int) ≤ (k : Int) + 3 := by omega
  have j0 : (k : Int) < (n : Int) := by omega
  have j1 : (k : Int) + 1 < (n : Int) := by omega
  have j2 : (k : Int) + 2 < (n : Int) := by omega
  have t1 : ((k : Int) + 1).toNat = k + 1 := by omega
  have t2 : ((k : Int) + 2).toNat = k + 2 := by omega
  have t3 : ((k : Int) + 3).toNat = k + 3 := by omega
  have d0 : w.drew.cell? ⟨b, off + k, none⟩ = some (.int .u8 f0) := c0
  have d1 : w.drew.cell? ⟨b, off + (k + 1), none⟩ = some (.int .u8 f1) := c1
  have d2 : w.drew.cell? ⟨b, off + (k + 2), none⟩ = some (.int .u8 f2) := c2
  have d3 : w.drew.cell? ⟨b, off + (k + 3), none⟩ = some (.int .u8 f3) := c3
  clear hk hn c0 c1 c2 c3
  refine wp_region_noPanic ?_
  refine wp_region_held_drew (S := fun W => W = w.drew) (by kernel_rfl) ?_ (fun hHeld => ?_)
  · rfl
  refine take_at (i := 0) (v := ?_) (some 5) rfl rfl (by kernel_rfl) (by kernel_rfl) (by kernel_rfl) (fun _ _ _ h => h) (Or.inl ⟨by rfl, ?_⟩) (by assumption) ?_
  rotate_left
  · (intro u hSw; subst hSw; go_simp; first | done | with_reducible rfl | (simp only [w1, w2, w3, p1, p2, p3, j1, j2, k1, t1, t2, t3, and_self, if_true]; with_reducible rfl))
  simp only [Act.put, List.setIfInBounds_toArray, List.set_cons_zero, List.set_cons_succ]
  refine take_at (i := 1) (v := ?_) (some 6) rfl rfl (by kernel_rfl) (by kernel_rfl) (by kernel_rfl) (fun _ _ _ h => h) (Or.inl ⟨by rfl, ?_⟩) (by assumption) ?_
  rotate_left
  · (intro u hSw; subst hSw; go_simp; first | done | with_reducible rfl | (simp only [w1, w2, w3, p1, p2, p3, j1, j2, k1, t1, t2, t3, and_self, if_true]; with_reducible rfl))
  simp only [Act.put, List.setIfInBounds_toArray, List.set_cons_zero, List.set_cons_succ]
  refine take_at (i := 2) (v := ?_) (some 7) rfl rfl (by kernel_rfl) (by kernel_rfl) (by kernel_rfl) (fun _ _ _ h => h) (Or.inl ⟨by rfl, ?_⟩) (by assumption) ?_
  rotate_left
  · (intro u hSw; subst hSw; go_simp; first | done | with_reducible rfl | (simp only [w1, w2, w3, p1, p2, p3, j1, j2, k1, t1, t2, t3, and_self, if_true]; with_reducible rfl))
  simp only [Act.put, List.setIfInBounds_toArray, List.set_cons_zero, List.set_cons_succ]
  refine take_at (i := 3) (v := ?_) (some 8) rfl rfl (by kernel_rfl) (by kernel_rfl) (by kernel_rfl) (fun _ _ _ h => h) (Or.inl ⟨by rfl, ?_⟩) (by assumption) ?_
  rotate_left
  · (intro u hSw; subst hSw; go_simp; first | done | with_reducible rfl | (simp only [w1, w2, w3, p1, p2, p3, j1, j2, k1, t1, t2, t3, and_self, if_true]; with_reducible rfl))
  simp only [Act.put, List.setIfInBounds_toArray, List.set_cons_zero, List.set_cons_succ]
  refine take_at (i := 4) (v := ?_) (some 9) rfl rfl (by kernel_rfl) (by kernel_rfl) (by kernel_rfl) (fun _ _ _ h => h) (Or.inl ⟨by rfl, ?_⟩) (by assumption) ?_
  rotate_left
  · (intro u hSw; subst hSw; go_simp; first | done | with_reducible rfl | (simp only [w1, w2, w3, p1, p2, p3, j1, j2, k1, t1, t2, t3, and_self, if_true]; with_reducible rfl))
  simp only [Act.put, List.setIfInBounds_toArray, List.set_cons_zero, List.set_cons_succ]
  refine take_at (i := 5) (v := ?_) (some 10) rfl rfl (by kernel_rfl) (by kernel_rfl) (by kernel_rfl) (fun _ _ _ h => h) (Or.inl ⟨by rfl, ?_⟩) (by assumption) ?_
  rotate_left
  · (intro u hSw; subst hSw; go_simp; first | done | with_reducible rfl | (simp only [w1, w2, w3, p1, p2, p3, j1, j2, k1, t1, t2, t3, and_self, if_true]; with_reducible rfl))
  simp only [Act.put, List.setIfInBounds_toArray, List.set_cons_zero, List.set_cons_succ]
  refine take_at (i := 6) (v := ?_) (some 11) rfl rfl (by kernel_rfl) (by kernel_rfl) (by kernel_rfl) (fun _ _ _ h => h) (Or.inl ⟨by rfl, ?_⟩) (by assumption) ?_
  rotate_left
  · (intro u hSw; subst hSw; go_simp; first | done | with_reducible rfl | (simp only [w1, w2, w3, p1, p2, p3, j1, j2, k1, t1, t2, t3, and_self, if_true]; with_reducible rfl))
  simp only [Act.put, List.setIfInBounds_toArray, List.set_cons_zero, List.set_cons_succ]
  refine take_at (i := 7) (v := ?_) (some 12) rfl rfl (by kernel_rfl) (by kernel_rfl) (by kernel_rfl) (fun _ _ _ h => h) (Or.inl ⟨by rfl, ?_⟩) (by assumption) ?_
  rotate_left
  · (intro u hSw; subst hSw; go_simp; first | done | with_reducible rfl | (simp only [w1, w2, w3, p1, p2, p3, j1, j2, k1, t1, t2, t3, and_self, if_true]; with_reducible rfl))
  simp only [Act.put, List.setIfInBounds_toArray, List.set_cons_zero, List.set_cons_succ]
  refine take_at (i := 8) (v := ?_) (some 13) rfl rfl (by kernel_rfl) (by kernel_rfl) (by kernel_rfl) (fun _ _ _ h => h) (Or.inl ⟨by rfl, ?_⟩) (by assumption) ?_
  rotate_left
  · (intro u hSw; subst hSw; go_simp; first | done | with_reducible rfl | (simp only [w1, w2, w3, p1, p2, p3, j1, j2, k1, t1, t2, t3, and_self, if_true]; with_reducible rfl))
  simp only [Act.put, List.setIfInBounds_toArray, List.set_cons_zero, List.set_cons_succ]
  refine take_at (i := 9) (v := ?_) (some 14) rfl rfl (by kernel_rfl) (by kernel_rfl) (by kernel_rfl) (fun _ _ _ h => h) (Or.inl ⟨by rfl, ?_⟩) (by assumption) ?_
  rotate_left
  · (intro u hSw; subst hSw; go_simp; first | done | with_reducible rfl | (simp only [w1, w2, w3, p1, p2, p3, j1, j2, k1, t1, t2, t3, and_self, if_true]; with_reducible rfl))
  simp only [Act.put, List.setIfInBounds_toArray, List.set_cons_zero, List.set_cons_succ]
  refine take_at (i := 10) (v := ?_) (some 15) rfl rfl (by kernel_rfl) (by kernel_rfl) (by kernel_rfl) (fun _ _ _ h => h) (Or.inl ⟨by rfl, ?_⟩) (by assumption) ?_
  rotate_left
  · (intro u hSw; subst hSw; go_simp; first | done | with_reducible rfl | (simp only [w1, w2, w3, p1, p2, p3, j1, j2, k1, t1, t2, t3, and_self, if_true]; with_reducible rfl))
  simp only [Act.put, List.setIfInBounds_toArray, List.set_cons_zero, List.set_cons_succ]
  refine take_at (i := 11) (v := ?_) (some 16) rfl rfl (by kernel_rfl) (by kernel_rfl) (by kernel_rfl) (fun _ _ _ h => h) (Or.inl ⟨by rfl, ?_⟩) (by assumption) ?_
  rotate_left
  · (intro u hSw; subst hSw; go_simp; first | done | with_reducible rfl | (simp only [w1, w2, w3, p1, p2, p3, j1, j2, k1, t1, t2, t3, and_self, if_true]; with_reducible rfl))
  simp only [Act.put, List.setIfInBounds_toArray, List.set_cons_zero, List.set_cons_succ]
  refine take_at (i := 12) (v := ?_) (some 17) rfl rfl (by kernel_rfl) (by kernel_rfl) (by kernel_rfl) (fun _ _ _ h => h) (Or.inl ⟨by rfl, ?_⟩) (by assumption) ?_
  rotate_left
  · (intro u hSw; subst hSw; go_simp; first | done | with_reducible rfl | (simp only [w1, w2, w3, p1, p2, p3, j1, j2, k1, t1, t2, t3, and_self, if_true]; with_reducible rfl))
  simp only [Act.put, List.setIfInBounds_toArray, List.set_cons_zero, List.set_cons_succ]
  refine take_at (i := 13) (v := ?_) (some 18) rfl rfl (by kernel_rfl) (by kernel_rfl) (by kernel_rfl) (fun _ _ _ h => h) (Or.inl ⟨by rfl, ?_⟩) (by assumption) ?_
  rotate_left
  · (intro u hSw; subst hSw; go_simp; first | done | with_reducible rfl | (simp only [w1, w2, w3, p1, p2, p3, j1, j2, k1, t1, t2, t3, and_self, if_true]; with_reducible rfl))
  simp only [Act.put, List.setIfInBounds_toArray, List.set_cons_zero, List.set_cons_succ]
  refine take_at (i := 14) (v := ?_) (some 19) rfl rfl (by kernel_rfl) (by kernel_rfl) (by kernel_rfl) (fun _ _ _ h => h) (Or.inl ⟨by rfl, ?_⟩) (by assumption) ?_
  rotate_left
  · (intro u hSw; subst hSw; go_simp; first | done | with_reducible rfl | (simp only [w1, w2, w3, p1, p2, p3, j1, j2, k1, t1, t2, t3, and_self, if_true]; with_reducible rfl))
  simp only [Act.put, List.setIfInBounds_toArray, List.set_cons_zero, List.set_cons_succ]
  refine take_at (i := 15) (v := ?_) (some 20) rfl rfl (by kernel_rfl) (by kernel_rfl) (by kernel_rfl) (fun _ _ _ h => h) (Or.inl ⟨by rfl, ?_⟩) (by assumption) ?_
  rotate_left
  · (intro u hSw; subst hSw; go_simp; first | done | with_reducible rfl | (simp only [w1, w2, w3, p1, p2, p3, j1, j2, k1, t1, t2, t3, and_self, if_true]; with_reducible rfl))
  simp only [Act.put, List.setIfInBounds_toArray, List.set_cons_zero, List.set_cons_succ]
  refine take_at (i := 16) (v := ?_) (some 21) rfl rfl (by kernel_rfl) (by kernel_rfl) (by kernel_rfl) (fun _ _ _ h => h) (Or.inl ⟨by rfl, ?_⟩) (by assumption) ?_
  rotate_left
  · (intro u hSw; subst hSw; go_simp; first | done | with_reducible rfl | (simp only [w1, w2, w3, p1, p2, p3, j1, j2, k1, t1, t2, t3, and_self, if_true]; with_reducible rfl))
  simp only [Act.put, List.setIfInBounds_toArray, List.set_cons_zero, List.set_cons_succ]
  refine take_at (i := 17) (v := ?_) (some 22) rfl rfl (by kernel_rfl) (by kernel_rfl) (by kernel_rfl) (fun _ _ _ h => h) (Or.inl ⟨by rfl, ?_⟩) (by assumption) ?_
  rotate_left
  · (intro u hSw; subst hSw; go_simp; first | done | with_reducible rfl | (simp only [w1, w2, w3, p1, p2, p3, j1, j2, k1, t1, t2, t3, and_self, if_true]; with_reducible rfl))
  simp only [Act.put, List.setIfInBounds_toArray, List.set_cons_zero, List.set_cons_succ]
  refine take_at (i := 18) (v := ?_) (some 23) rfl rfl (by kernel_rfl) (by kernel_rfl) (by kernel_rfl) (fun _ _ _ h => h) (Or.inl ⟨by rfl, ?_⟩) (by assumption) ?_
  rotate_left
  · (intro u hSw; subst hSw; go_simp; first | done | with_reducible rfl | (simp only [w1, w2, w3, p1, p2, p3, j1, j2, k1, t1, t2, t3, and_self, if_true]; with_reducible rfl))
  simp only [Act.put, List.setIfInBounds_toArray, List.set_cons_zero, List.set_cons_succ]
  refine take_at (i := 19) (v := ?_) (some 24) rfl rfl (by kernel_rfl) (by kernel_rfl) (by kernel_rfl) (fun _ _ _ h => h) (Or.inl ⟨by rfl, ?_⟩) (by assumption) ?_
  rotate_left
  · (intro u hSw; subst hSw; go_simp; first | done | with_reducible rfl | (simp only [w1, w2, w3, p1, p2, p3, j1, j2, k1, t1, t2, t3, and_self, if_true]; with_reducible rfl))
  simp only [Act.put, List.setIfInBounds_toArray, List.set_cons_zero, List.set_cons_succ]
  refine take_at (i := 20) (v := ?_) (some 25) rfl rfl (by kernel_rfl) (by kernel_rfl) (by kernel_rfl) (fun _ _ _ h => h) (Or.inl ⟨by rfl, ?_⟩) (by assumption) ?_
  rotate_left
  · (intro u hSw; subst hSw; go_simp; first | done | with_reducible rfl | (simp only [w1, w2, w3, p1, p2, p3, j1, j2, k1, t1, t2, t3, and_self, if_true]; with_reducible rfl))
  simp only [Act.put, List.setIfInBounds_toArray, List.set_cons_zero, List.set_cons_succ]
  refine take_at (i := 21) (v := ?_) (some 26) rfl rfl (by kernel_rfl) (by kernel_rfl) (by kernel_rfl) (fun _ _ _ h => h) (Or.inl ⟨by rfl, ?_⟩) (by assumption) ?_
  rotate_left
  · (intro u hSw; subst hSw; go_simp; first | done | with_reducible rfl | (simp only [w1, w2, w3, p1, p2, p3, j1, j2, k1, t1, t2, t3, and_self, if_true]; with_reducible rfl))
  simp only [Act.put, List.setIfInBounds_toArray, List.set_cons_zero, List.set_cons_succ]
  refine take_at (i := 22) (v := ?_) (some 27) rfl rfl (by kernel_rfl) (by kernel_rfl) (by kernel_rfl) (fun _ _ _ h => h) (Or.inl ⟨by rfl, ?_⟩) (by assumption) ?_
  rotate_left
  · (intro u hSw; subst hSw; go_simp; first | done | with_reducible rfl | (simp only [w1, w2, w3, p1, p2, p3, j1, j2, k1, t1, t2, t3, and_self, if_true]; with_reducible rfl))
  simp only [Act.put, List.setIfInBounds_toArray, List.set_cons_zero, List.set_cons_succ]
  refine take_at (i := 23) (v := ?_) (some 28) rfl rfl (by kernel_rfl) (by kernel_rfl) (by kernel_rfl) (fun _ _ _ h => h) (Or.inl ⟨by rfl, ?_⟩) (by assumption) ?_
  rotate_left
  · (intro u hSw; subst hSw; go_simp; first | done | with_reducible rfl | (simp only [w1, w2, w3, p1, p2, p3, j1, j2, k1, t1, t2, t3, and_self, if_true]; with_reducible rfl))
  simp only [Act.put, List.setIfInBounds_toArray, List.set_cons_zero, List.set_cons_succ]
  refine take_at (i := 24) (v := ?_) (some 29) rfl rfl (by kernel_rfl) (by kernel_rfl) (by kernel_rfl) (fun _ _ _ h => h) (Or.inl ⟨by rfl, ?_⟩) (by assumption) ?_
  rotate_left
  · (intro u hSw; subst hSw; go_simp; first | done | with_reducible rfl | (simp only [w1, w2, w3, p1, p2, p3, j1, j2, k1, t1, t2, t3, and_self, if_true]; with_reducible rfl))
  simp only [Act.put, List.setIfInBounds_toArray, List.set_cons_zero, List.set_cons_succ]
  refine take_at (i := 25) (v := ?_) (some 30) rfl rfl (by kernel_rfl) (by kernel_rfl) (by kernel_rfl) (fun _ _ _ h => h) (Or.inl ⟨by rfl, ?_⟩) (by assumption) ?_
  rotate_left
  · (intro u hSw; subst hSw; go_simp; first | done | with_reducible rfl | (simp only [w1, w2, w3, p1, p2, p3, j1, j2, k1, t1, t2, t3, and_self, if_true]; with_reducible rfl))
  simp only [Act.put, List.setIfInBounds_toArray, List.set_cons_zero, List.set_cons_succ]
  refine take_at (i := 26) (v := ?_) (some 31) rfl rfl (by kernel_rfl) (by kernel_rfl) (by kernel_rfl) (fun _ _ _ h => h) (Or.inl ⟨by rfl, ?_⟩) (by assumption) ?_
  rotate_left
  · (intro u hSw; subst hSw; go_simp; first | done | with_reducible rfl | (simp only [w1, w2, w3, p1, p2, p3, j1, j2, k1, t1, t2, t3, and_self, if_true]; with_reducible rfl))
  simp only [Act.put, List.setIfInBounds_toArray, List.set_cons_zero, List.set_cons_succ]
  refine take_at (i := 27) (v := ?_) (some 32) rfl rfl (by kernel_rfl) (by kernel_rfl) (by kernel_rfl) (fun _ _ _ h => h) (Or.inl ⟨by rfl, ?_⟩) (by assumption) ?_
  rotate_left
  · (intro u hSw; subst hSw; go_simp; first | done | with_reducible rfl | (simp only [w1, w2, w3, p1, p2, p3, j1, j2, k1, t1, t2, t3, and_self, if_true]; with_reducible rfl))
  simp only [Act.put, List.setIfInBounds_toArray, List.set_cons_zero, List.set_cons_succ]
  refine take_at (i := 28) (v := ?_) (some 33) rfl rfl (by kernel_rfl) (by kernel_rfl) (by kernel_rfl) (fun _ _ _ h => h) (Or.inl ⟨by rfl, ?_⟩) (by assumption) ?_
  rotate_left
  · (intro u hSw; subst hSw; go_simp; first | done | with_reducible rfl | (simp only [w1, w2, w3, p1, p2, p3, j1, j2, k1, t1, t2, t3, and_self, if_true]; with_reducible rfl))
  simp only [Act.put, List.setIfInBounds_toArray, List.set_cons_zero, List.set_cons_succ]
  refine take_at (i := 29) (v := ?_) (some 4) rfl rfl (by kernel_rfl) (by kernel_rfl) (by kernel_rfl) (fun _ _ _ h => h) (Or.inl ⟨by rfl, ?_⟩) (by assumption) ?_
  rotate_left
  · (intro u hSw; subst hSw; go_simp; first | done | with_reducible rfl | (simp only [w1, w2, w3, p1, p2, p3, j1, j2, k1, t1, t2, t3, and_self, if_true]; with_reducible rfl))
  simp only [Act.put, List.setIfInBounds_toArray, List.set_cons_zero, List.set_cons_succ]
  refine wpAnyH_done (by kernel_rfl) ?_ _
  refine NoPanic.normal ?_
  have E : IntKind.i64.wrap (IntKind.i64.wrap (IntKind.i64.wrap (IntKind.i64.wrap f0 + IntKind.i64.wrap (IntKind.i64.wrap f1 * 256)) + IntKind.i64.wrap (IntKind.i64.wrap f2 * 65536)) + IntKind.i64.wrap (IntKind.i64.wrap f3 * 16777216)) = f0 + f1 * 256 + f2 * 65536 + f3 * 16777216 := by
    simp only [IntKind.wrap_i64]
    omega
  rw [E]
  clear E
  go_wp2_with fail
  go_ret
  exact ⟨rfl, (Below.refl _ _).drew⟩
end Go.Proofs.Ytmlllglgjpmicaa
