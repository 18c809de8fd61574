/-
  Walks, not a claim by itself: the reference's Parse, of a text of two signs and more. By the verifier.
-/
import Derived.Test.YtkpkehbhgfbckaaURPar
namespace Go.Proofs.Ytkpkehbhgfbckaa
open Go.RowKit
set_option maxRecDepth 100000 in
set_option maxHeartbeats 4000000 in
theorem rparse_two (s : ByteArray) (w : World) (hs : s.size ≤ 39) (h1 : 1 < s.size) (hf : ¬ ((s[0]'(by omega)).toNat : Int) = 48) :
    Calls Try.prog 33 #[.string s] w fun e w' => RPost s e ∧ Below w.heap.size w w' := by
  have e1 : ¬ (39 : Int) < s.size := by omega
  have e2 : ¬ s.toList = [] := empty_not s (by omega)
  have e3 : (1 : Int) < s.size := by omega
  have e4 : s.toList.isEmpty = false := by simpa using e2
  have hpos : 0 < s.size := by omega
  have hN : (s.size : Int) ≤ 39 := by omega
  have hfirst : Hid (∀ h : 0 < s.size, ((s[0]'h).toNat : Int) = 48 → s.size = 1) := fun _ h => absurd h hf
  obtain ⟨c0, hc0⟩ : ∃ c : Int, c = ((s[0]'hpos).toNat : Int) := ⟨_, rfl⟩
  have hi0 : ∀ w, (Instr.index 9 (.string s) (.int .i64 0)).run Try.prog w = .ok (.int .u8 c0) w := by rw [hc0]; exact index_str s 0 hpos
  have hn0 : ¬ c0 = 48 := by rw [hc0]; exact hf
  clear h1 hf hc0
  go_enter Try.func33, Try.ntmps33
  go_wp2_with fail
  clear hi0
  go_loopw [5, 6] (fun o i wr => RPar w s o i wr) (fun _ i _ => s.size - (intOf i).toNat)
  case atStart => exact rpar_start w s
  case round =>
    obtain ⟨k, x, y, b, hk, rfl, rfl, hd, hv, hA, hR, hB⟩ := hrel
    have DE : Hid (∀ (j : Nat) (h : j < s.size), j < k → (48 : Int) ≤ ((s[j]'h).toNat : Int) ∧ ((s[j]'h).toNat : Int) ≤ 57) := hd
    have VE : Hid (SoFar b x y (val (s.data.toList.take k))) := hv
    have AE : Hid (AtW wr (w.heap.size + 1) x y) := hA
    have RE : Hid (AtW wr w.heap.size 0 0) := hR
    have BE : Hid (Below w.heap.size w wr) := hB
    clear hd hv hB
    by_cases hlt : k < s.size
    · have i0 : (k : Int) < s.size := by omega
      have i1 : (0 : Int) ≤ (k : Int) := by omega
      obtain ⟨c, hc⟩ : ∃ c : Int, c = ((s[k]'hlt).toNat : Int) := ⟨_, rfl⟩
      have hix : ∀ w, (Instr.index 9 (.string s) (.int .i64 k)).run Try.prog w = .ok (.int .u8 c) w := by rw [hc]; exact index_str s k hlt
      have CE : Hid (c = ((s[k]'hlt).toNat : Int)) := hc
      clear hc
      by_cases g1 : c < 48
      · obtain ⟨r0, r1, r2, r3, r4⟩ := hR
        clear hA
        go_wp2_with fail
        refine bodyPost_ret (v := .tuple #[U 0 0, .int .i64 4]) (by simp [results, Try.results33, go_sem, r0, r1]) rfl ⟨.inr ⟨fun hn => ?_, rfl⟩, sum_below2 BE.out (Nat.le_refl _)⟩
        have := hn.1 k hlt; have := CE.out; omega
      by_cases g2 : 57 < c
      · obtain ⟨r0, r1, r2, r3, r4⟩ := hR
        clear hA
        go_wp2_with fail
        refine bodyPost_ret (v := .tuple #[U 0 0, .int .i64 4]) (by simp [results, Try.results33, go_sem, r0, r1]) rfl ⟨.inr ⟨fun hn => ?_, rfl⟩, sum_below2 BE.out (Nat.le_refl _)⟩
        have := hn.1 k hlt; have := CE.out; omega
      obtain ⟨a0, a1, a2, a3, a4⟩ := hA
      clear hR
      go_wp2_with fail
      have hx := VE.out.1
      have hy := VE.out.2.1
      have ST := in_start VE.out AE.out RE.out BE.out
      have SE : Hid (RIn w wr.heap.size x y ((val (s.data.toList.take k) : Nat) : Int) (.bool b) (.int .i64 0) (wr.alloc (.cells #[.int .u64 x, .int .u64 y] 24))) := ST
      have hn1 : wr.heap.size ≠ w.heap.size + 1 := by omega
      have hn2 : wr.heap.size ≠ w.heap.size := by omega
      have hn3 : w.heap.size ≤ wr.heap.size := by omega
      clear ST VE AE RE BE a0 a1 a2 a3 a4
      generalize wr.alloc (.cells #[.int .u64 x, .int .u64 y] 24) = wi at SE ⊢
      generalize wr.heap.size = T at SE hn1 hn2 hn3 ⊢
      obtain ⟨t, ht⟩ : ∃ t, t = ((val (s.data.toList.take k) : Nat) : Int) := ⟨_, rfl⟩
      have t0 : 0 ≤ t := by omega
      have TE : Hid (t = ((val (s.data.toList.take k) : Nat) : Int)) := ht
      rw [← ht] at SE
      clear ht
      go_loopw [5, 8] (fun o i wr => RIn w T x y t o i wr) (fun _ i _ => 9 - (intOf i).toNat)
      case atStart => exact SE.out
      case round =>
        obtain ⟨j, p, q, b', hj, rfl, rfl, hp, hq, hI, hT, hA, hR, hB⟩ := hrel
        clear SE
        have IE : Hid (InV b' x y t p q j) := hI
        have TT : Hid (AtW wr T p q) := hT
        have AE : Hid (AtW wr (w.heap.size + 1) x y) := hA
        have RE : Hid (AtW wr w.heap.size 0 0) := hR
        have BE : Hid (Below w.heap.size w wr) := hB
        obtain ⟨a0, a1, a2, a3, a4⟩ := hA
        obtain ⟨v0, v1, v2, v3, v4⟩ := hT
        clear hI hR hB
        by_cases hj9 : j < 9
        · have j0 : (j : Int) < 9 := by omega
          go_wp2_with fail
          refine (radd_sum p q x y (V p q + V x y) _ hp hq hx hy rfl).mono ?_
          rintro e w5 ⟨rfl, hB5⟩
          have T5 : Hid (AtW w5 T p q) := TT.out.below hB5
          have A5 : Hid (AtW w5 (w.heap.size + 1) x y) := AE.out.below hB5
          have R5 : Hid (AtW w5 w.heap.size 0 0) := RE.out.below hB5
          have E5 : Hid (Below w.heap.size w w5) := BE.out.trans (hB5.mono BE.out.size)
          clear hB5 a0 a1 a2 a3 a4 v0 v1 v2 v3 v4 TT AE RE BE
          obtain ⟨v0, v1, v2, v3, v4⟩ := id T5.out
          have V0 : Hid (0 ≤ V p q + V x y) := by have := V_nonneg hp hq; have := V_nonneg hx hy; unfold Hid; omega
          by_cases g : V p q + V x y < 340282366920938463463374607431768211456
          · rw [sumV_ok g]
            cases b'
            · go_wp2_with fail
              exact ⟨in_step _ hj9 t0 IE.out (hi_word V0.out g) (lo_word _) (.inr (.inl ⟨rfl, V_words _⟩)) T5.out A5.out R5.out E5.out hn1 hn2 hn3, by simp [intOf]; omega⟩
            · go_wp2_with fail
              exact ⟨in_step _ hj9 t0 IE.out (hi_word V0.out g) (lo_word _) (.inr (.inl ⟨rfl, V_words _⟩)) T5.out A5.out R5.out E5.out hn1 hn2 hn3, by simp [intOf]; omega⟩
          · rw [sumV_over g]
            have G : Hid (¬ V p q + V x y < 340282366920938463463374607431768211456) := g
            clear g
            cases b'
            · go_wp2_with fail
              exact ⟨in_step _ hj9 t0 IE.out word_zero word_zero (.inr (.inr ⟨rfl, by have := G.out; omega⟩)) T5.out A5.out R5.out E5.out hn1 hn2 hn3, by simp [intOf]; omega⟩
            · go_wp2_with fail
              exact ⟨in_step _ hj9 t0 IE.out word_zero word_zero (.inl ⟨rfl, rfl⟩) T5.out A5.out R5.out E5.out hn1 hn2 hn3, by simp [intOf]; omega⟩
        · obtain rfl : j = 9 := by omega
          rw [show ((9 : Nat) : Int) = 9 from rfl]
          go_wp2_with fail
          have WC : Hid (Word (c - 48)) := ⟨by omega, by omega⟩
          have V0 : Hid (0 ≤ V p q + (c - 48)) := by have := V_nonneg hp hq; unfold Hid; omega
          have IE : Hid (InV b' x y ((val (s.data.toList.take k) : Nat) : Int) p q 9) := by
            have := IE.out
            rw [TE.out] at this
            exact this
          have w8 : IntKind.u8.wrap (c - 48) = c - 48 := by rw [IntKind.wrap_u8]; omega
          have w64 : IntKind.u64.wrap (c - 48) = c - 48 := by rw [IntKind.wrap_u64]; omega
          by_cases g : V p q + (c - 48) < 340282366920938463463374607431768211456
          · skip
            refine wp_region_held_drew (S := fun W' => W'.cell? ⟨T, 0, none⟩ = some (.int .u64 p) ∧ W'.cell? ⟨T, 1, none⟩ = some (.int .u64 q) ∧ Hid (Below wr.heap.size wr W')) (by kernel_rfl) ?_ (fun hHeld => ?_)
            · exact ⟨v0, v1, (Below.refl _ _).drew⟩
            refine take_at (i := 0) (v := ?_) (some 64) rfl rfl (by kernel_rfl) (by kernel_rfl) (by kernel_rfl) (fun _ _ _ h => h) (Or.inl ⟨by rfl, ?_⟩) (by assumption) ?_
            rotate_left
            · (intro w hSw; (try dsimp only at hSw); go_simp; try with_reducible rfl)
            simp only [Act.put, List.setIfInBounds_toArray, List.set_cons_zero, List.set_cons_succ]
            refine take_at (i := 1) (v := ?_) (some 65) rfl rfl (by kernel_rfl) (by kernel_rfl) (by kernel_rfl) (fun _ _ _ h => h) (Or.inl ⟨by rfl, ?_⟩) (by assumption) ?_
            rotate_left
            · (intro w hSw; (try dsimp only at hSw); go_simp; try with_reducible rfl)
            simp only [Act.put, List.setIfInBounds_toArray, List.set_cons_zero, List.set_cons_succ]
            refine take_at (i := 2) (v := ?_) (some 66) rfl rfl (by kernel_rfl) (by kernel_rfl) (by kernel_rfl) (fun _ _ _ h => h) (Or.inl ⟨by rfl, ?_⟩) (by assumption) ?_
            rotate_left
            · (intro w hSw; (try dsimp only at hSw); go_simp; try with_reducible rfl)
            simp only [Act.put, List.setIfInBounds_toArray, List.set_cons_zero, List.set_cons_succ]
            refine take_at (i := 3) (v := ?_) (some 67) rfl rfl (by kernel_rfl) (by kernel_rfl) (by kernel_rfl) (fun _ _ _ h => h) (Or.inl ⟨by rfl, ?_⟩) (by assumption) ?_
            rotate_left
            · (intro w hSw; (try dsimp only at hSw); go_simp; try with_reducible rfl)
            simp only [Act.put, List.setIfInBounds_toArray, List.set_cons_zero, List.set_cons_succ]
            refine take_at (i := 4) (v := ?_) (some 68) rfl rfl (by kernel_rfl) (by kernel_rfl) (by kernel_rfl) (fun _ _ _ h => h) (Or.inl ⟨by rfl, ?_⟩) (by assumption) ?_
            rotate_left
            · (intro w hSw; (try dsimp only at hSw); go_simp; try with_reducible rfl)
            simp only [Act.put, List.setIfInBounds_toArray, List.set_cons_zero, List.set_cons_succ]
            refine take_at (i := 5) (v := ?_) (some 69) rfl rfl (by kernel_rfl) (by kernel_rfl) (by kernel_rfl) (fun _ _ _ h => h) (Or.inl ⟨by rfl, ?_⟩) (by assumption) ?_
            rotate_left
            · (intro w hSw; (try dsimp only at hSw); go_simp; try with_reducible rfl)
            simp only [Act.put, List.setIfInBounds_toArray, List.set_cons_zero, List.set_cons_succ]
            obtain ⟨wd, hwd⟩ : ∃ wd, wd = wr.drew := ⟨_, rfl⟩
            rw [← hwd] at hHeld ⊢
            clear hwd
            refine wpAnyH_ready (rs := [6, 11]) (by kernel_rfl) (by simp) ?_
            refine all_call (i := 6) (some 70) 16 _ _ rfl rfl rfl (by rfl) #[.int .u64 (c - 48)] rfl Try.func16 (by kernel_rfl) (by kernel_rfl) ?_ ?_
            · refine (rof_one (c - 48) _).mono ?_
              rintro e W1 ⟨rfl, hB⟩
              refine ⟨_, rfl, keepB v4 hHeld (hB.mono (sizeB hHeld)), fun s1 => ?_⟩
              clear hB
              simp only [Act.put, List.setIfInBounds_toArray, List.set_cons_zero, List.set_cons_succ]
              refine wpAnyH_ready (rs := [7, 11]) (by kernel_rfl) (by simp) ?_
              refine all_call (i := 7) (some 71) 10 _ _ rfl rfl rfl (by rfl) #[U p q, U 0 (c - 48)] rfl Try.func10 (by kernel_rfl) (by kernel_rfl) ?_ ?_
              · refine (radd_sum p q 0 (c - 48) (V p q + (c - 48)) _ hp hq word_zero WC.out (by unfold V; omega)).mono ?_
                rintro e W2 ⟨rfl, hB⟩
                rw [sumV_ok g]
                refine ⟨_, rfl, keepB v4 s1 (hB.mono (sizeB s1)), fun s2 => ?_⟩
                clear hB
                simp only [Act.put, List.setIfInBounds_toArray, List.set_cons_zero, List.set_cons_succ]
                refine take_at (i := 8) (v := ?_) (some 63) rfl rfl (by kernel_rfl) (by kernel_rfl) (by kernel_rfl) (fun _ _ _ h => h) (Or.inl ⟨by rfl, ?_⟩) (by assumption) ?_
                rotate_left
                · (intro w hSw; (try dsimp only at hSw); go_simp; try with_reducible rfl)
                simp only [Act.put, List.setIfInBounds_toArray, List.set_cons_zero, List.set_cons_succ]
                refine take_at (i := 9) (v := ?_) (some 72) rfl rfl (by kernel_rfl) (by kernel_rfl) (by kernel_rfl) (fun _ _ _ h => h) (Or.inl ⟨by rfl, ?_⟩) (by assumption) ?_
                rotate_left
                · (intro w hSw; (try dsimp only at hSw); go_simp; try with_reducible rfl)
                simp only [Act.put, List.setIfInBounds_toArray, List.set_cons_zero, List.set_cons_succ]
                refine take_at (i := 10) (v := ?_) (some 73) rfl rfl (by kernel_rfl) (by kernel_rfl) (by kernel_rfl) (fun _ _ _ h => h) (Or.inl ⟨by rfl, ?_⟩) (by assumption) ?_
                rotate_left
                · (intro w hSw; (try dsimp only at hSw); go_simp; try with_reducible rfl)
                simp only [Act.put, List.setIfInBounds_toArray, List.set_cons_zero, List.set_cons_succ]
                refine wpAnyH_ready (rs := [11]) (by kernel_rfl) (by simp) ?_
                refine all_alloc (i := 11) (some 11) 24 rfl rfl rfl (by rfl) .u64 2 (by kernel_rfl) ?_ ?_
                · intro X W3 hn x3 hB
                  have bX := Nat.le_trans (sizeB s2) hn
                  refine ⟨keepB v4 s2 (hB.mono (sizeB s2)), fun s3 => ?_⟩
                  clear hB hn
                  simp only [Act.put, List.setIfInBounds_toArray, List.set_cons_zero, List.set_cons_succ]
                  refine wpAnyH_ready (rs := [12]) (by kernel_rfl) (by simp) ?_
                  refine all_store (i := 12) none 24 _ _ rfl rfl rfl (by rfl) X .u64 2 (two (hiW (V p q + (c - 48))) (loW (V p q + (c - 48)))) _ rfl rfl x3 (by kernel_rfl) ?_ AllReadyH.nil
                  intro W3 x3 hB
                  refine ⟨keepB v4 s3 (hB.below bX (sizeB s3)), fun s3 => ?_⟩
                  clear hB
                  simp only [Act.put]
                  refine take_at (i := 13) (v := ?_) (some 12) rfl rfl (by kernel_rfl) (by kernel_rfl) (by kernel_rfl) (fun _ _ _ h => h) (Or.inl ⟨by rfl, ?_⟩) (by assumption) ?_
                  rotate_left
                  · (intro w hSw; (try dsimp only at hSw); go_simp; try with_reducible rfl)
                  simp only [Act.put, List.setIfInBounds_toArray, List.set_cons_zero, List.set_cons_succ]
                  refine wpAnyH_done (by kernel_rfl) ?_ _
                  have B3 : Hid (Below wr.heap.size wr W3) := s3.2.2
                  have A3 := AE.out.below B3.out
                  have A4 : Hid (AtW W3 (w.heap.size + 1) x y) := A3
                  have R4 : Hid (AtW W3 w.heap.size 0 0) := RE.out.below B3.out
                  have E3 : Hid (Below w.heap.size w W3) := BE.out.trans (B3.out.mono BE.out.size)
                  have y0 := x3.1 0 (by omega)
                  have y1 := x3.1 1 (by omega)
                  simp only [two] at y0 y1
                  clear s3 x3 B3 AE RE BE TT
                  obtain ⟨z0, z1, z2, z3, z4⟩ := A3
                  cases b'
                  · go_wp2_with fail
                    exact ⟨out_step hlt CE.out (by omega) (by omega) DE.out IE.out (hi_word V0.out g) (lo_word _) (.inr (.inl ⟨rfl, V_words _⟩)) A4.out R4.out E3.out, by simp [intOf]; omega⟩
                  · go_wp2_with fail
                    exact ⟨out_step hlt CE.out (by omega) (by omega) DE.out IE.out (hi_word V0.out g) (lo_word _) (.inr (.inl ⟨rfl, V_words _⟩)) A4.out R4.out E3.out, by simp [intOf]; omega⟩
                exact AllReadyH.nil
              refine all_alloc (i := 11) (some 11) 24 rfl rfl rfl (by rfl) .u64 2 (by kernel_rfl) ?_ ?_
              · intro X W4 hn x4 hB
                have bX := Nat.le_trans (sizeB s1) hn
                refine ⟨keepB v4 s1 (hB.mono (sizeB s1)), fun s4 => ?_⟩
                clear hB hn
                simp only [Act.put, List.setIfInBounds_toArray, List.set_cons_zero, List.set_cons_succ]
                refine wpAnyH_ready (rs := [7]) (by kernel_rfl) (by simp) ?_
                refine all_call (i := 7) (some 71) 10 _ _ rfl rfl rfl (by rfl) #[U p q, U 0 (c - 48)] rfl Try.func10 (by kernel_rfl) (by kernel_rfl) ?_ ?_
                · refine (radd_sum p q 0 (c - 48) (V p q + (c - 48)) _ hp hq word_zero WC.out (by unfold V; omega)).mono ?_
                  rintro e W5 ⟨rfl, hB⟩
                  rw [sumV_ok g]
                  refine ⟨_, rfl, keepB v4 s4 (hB.mono (sizeB s4)), fun s5 => ?_⟩
                  have x5 := x4.below hB
                  clear hB
                  simp only [Act.put, List.setIfInBounds_toArray, List.set_cons_zero, List.set_cons_succ]
                  refine take_at (i := 8) (v := ?_) (some 63) rfl rfl (by kernel_rfl) (by kernel_rfl) (by kernel_rfl) (fun _ _ _ h => h) (Or.inl ⟨by rfl, ?_⟩) (by assumption) ?_
                  rotate_left
                  · (intro w hSw; (try dsimp only at hSw); go_simp; try with_reducible rfl)
                  simp only [Act.put, List.setIfInBounds_toArray, List.set_cons_zero, List.set_cons_succ]
                  refine take_at (i := 9) (v := ?_) (some 72) rfl rfl (by kernel_rfl) (by kernel_rfl) (by kernel_rfl) (fun _ _ _ h => h) (Or.inl ⟨by rfl, ?_⟩) (by assumption) ?_
                  rotate_left
                  · (intro w hSw; (try dsimp only at hSw); go_simp; try with_reducible rfl)
                  simp only [Act.put, List.setIfInBounds_toArray, List.set_cons_zero, List.set_cons_succ]
                  refine take_at (i := 10) (v := ?_) (some 73) rfl rfl (by kernel_rfl) (by kernel_rfl) (by kernel_rfl) (fun _ _ _ h => h) (Or.inl ⟨by rfl, ?_⟩) (by assumption) ?_
                  rotate_left
                  · (intro w hSw; (try dsimp only at hSw); go_simp; try with_reducible rfl)
                  simp only [Act.put, List.setIfInBounds_toArray, List.set_cons_zero, List.set_cons_succ]
                  refine wpAnyH_ready (rs := [12]) (by kernel_rfl) (by simp) ?_
                  refine all_store (i := 12) none 24 _ _ rfl rfl rfl (by rfl) X .u64 2 (two (hiW (V p q + (c - 48))) (loW (V p q + (c - 48)))) _ rfl rfl x5 (by kernel_rfl) ?_ AllReadyH.nil
                  intro W3 x3 hB
                  refine ⟨keepB v4 s5 (hB.below bX (sizeB s5)), fun s3 => ?_⟩
                  clear hB
                  simp only [Act.put]
                  refine take_at (i := 13) (v := ?_) (some 12) rfl rfl (by kernel_rfl) (by kernel_rfl) (by kernel_rfl) (fun _ _ _ h => h) (Or.inl ⟨by rfl, ?_⟩) (by assumption) ?_
                  rotate_left
                  · (intro w hSw; (try dsimp only at hSw); go_simp; try with_reducible rfl)
                  simp only [Act.put, List.setIfInBounds_toArray, List.set_cons_zero, List.set_cons_succ]
                  refine wpAnyH_done (by kernel_rfl) ?_ _
                  have B3 : Hid (Below wr.heap.size wr W3) := s3.2.2
                  have A3 := AE.out.below B3.out
                  have A4 : Hid (AtW W3 (w.heap.size + 1) x y) := A3
                  have R4 : Hid (AtW W3 w.heap.size 0 0) := RE.out.below B3.out
                  have E3 : Hid (Below w.heap.size w W3) := BE.out.trans (B3.out.mono BE.out.size)
                  have y0 := x3.1 0 (by omega)
                  have y1 := x3.1 1 (by omega)
                  simp only [two] at y0 y1
                  clear s3 x3 B3 AE RE BE TT
                  obtain ⟨z0, z1, z2, z3, z4⟩ := A3
                  cases b'
                  · go_wp2_with fail
                    exact ⟨out_step hlt CE.out (by omega) (by omega) DE.out IE.out (hi_word V0.out g) (lo_word _) (.inr (.inl ⟨rfl, V_words _⟩)) A4.out R4.out E3.out, by simp [intOf]; omega⟩
                  · go_wp2_with fail
                    exact ⟨out_step hlt CE.out (by omega) (by omega) DE.out IE.out (hi_word V0.out g) (lo_word _) (.inr (.inl ⟨rfl, V_words _⟩)) A4.out R4.out E3.out, by simp [intOf]; omega⟩
                exact AllReadyH.nil
              exact AllReadyH.nil
            refine all_alloc (i := 11) (some 11) 24 rfl rfl rfl (by rfl) .u64 2 (by kernel_rfl) ?_ ?_
            · intro X W6 hn x6 hB
              have bX := Nat.le_trans (sizeB hHeld) hn
              refine ⟨keepB v4 hHeld (hB.mono (sizeB hHeld)), fun s6 => ?_⟩
              clear hB hn
              simp only [Act.put, List.setIfInBounds_toArray, List.set_cons_zero, List.set_cons_succ]
              refine wpAnyH_ready (rs := [6]) (by kernel_rfl) (by simp) ?_
              refine all_call (i := 6) (some 70) 16 _ _ rfl rfl rfl (by rfl) #[.int .u64 (c - 48)] rfl Try.func16 (by kernel_rfl) (by kernel_rfl) ?_ ?_
              · refine (rof_one (c - 48) _).mono ?_
                rintro e W7 ⟨rfl, hB⟩
                refine ⟨_, rfl, keepB v4 s6 (hB.mono (sizeB s6)), fun s7 => ?_⟩
                have x7 := x6.below hB
                clear hB
                simp only [Act.put, List.setIfInBounds_toArray, List.set_cons_zero, List.set_cons_succ]
                refine wpAnyH_ready (rs := [7]) (by kernel_rfl) (by simp) ?_
                refine all_call (i := 7) (some 71) 10 _ _ rfl rfl rfl (by rfl) #[U p q, U 0 (c - 48)] rfl Try.func10 (by kernel_rfl) (by kernel_rfl) ?_ ?_
                · refine (radd_sum p q 0 (c - 48) (V p q + (c - 48)) _ hp hq word_zero WC.out (by unfold V; omega)).mono ?_
                  rintro e W8 ⟨rfl, hB⟩
                  rw [sumV_ok g]
                  refine ⟨_, rfl, keepB v4 s7 (hB.mono (sizeB s7)), fun s8 => ?_⟩
                  have x8 := x7.below hB
                  clear hB
                  simp only [Act.put, List.setIfInBounds_toArray, List.set_cons_zero, List.set_cons_succ]
                  refine take_at (i := 8) (v := ?_) (some 63) rfl rfl (by kernel_rfl) (by kernel_rfl) (by kernel_rfl) (fun _ _ _ h => h) (Or.inl ⟨by rfl, ?_⟩) (by assumption) ?_
                  rotate_left
                  · (intro w hSw; (try dsimp only at hSw); go_simp; try with_reducible rfl)
                  simp only [Act.put, List.setIfInBounds_toArray, List.set_cons_zero, List.set_cons_succ]
                  refine take_at (i := 9) (v := ?_) (some 72) rfl rfl (by kernel_rfl) (by kernel_rfl) (by kernel_rfl) (fun _ _ _ h => h) (Or.inl ⟨by rfl, ?_⟩) (by assumption) ?_
                  rotate_left
                  · (intro w hSw; (try dsimp only at hSw); go_simp; try with_reducible rfl)
                  simp only [Act.put, List.setIfInBounds_toArray, List.set_cons_zero, List.set_cons_succ]
                  refine take_at (i := 10) (v := ?_) (some 73) rfl rfl (by kernel_rfl) (by kernel_rfl) (by kernel_rfl) (fun _ _ _ h => h) (Or.inl ⟨by rfl, ?_⟩) (by assumption) ?_
                  rotate_left
                  · (intro w hSw; (try dsimp only at hSw); go_simp; try with_reducible rfl)
                  simp only [Act.put, List.setIfInBounds_toArray, List.set_cons_zero, List.set_cons_succ]
                  refine wpAnyH_ready (rs := [12]) (by kernel_rfl) (by simp) ?_
                  refine all_store (i := 12) none 24 _ _ rfl rfl rfl (by rfl) X .u64 2 (two (hiW (V p q + (c - 48))) (loW (V p q + (c - 48)))) _ rfl rfl x8 (by kernel_rfl) ?_ AllReadyH.nil
                  intro W3 x3 hB
                  refine ⟨keepB v4 s8 (hB.below bX (sizeB s8)), fun s3 => ?_⟩
                  clear hB
                  simp only [Act.put]
                  refine take_at (i := 13) (v := ?_) (some 12) rfl rfl (by kernel_rfl) (by kernel_rfl) (by kernel_rfl) (fun _ _ _ h => h) (Or.inl ⟨by rfl, ?_⟩) (by assumption) ?_
                  rotate_left
                  · (intro w hSw; (try dsimp only at hSw); go_simp; try with_reducible rfl)
                  simp only [Act.put, List.setIfInBounds_toArray, List.set_cons_zero, List.set_cons_succ]
                  refine wpAnyH_done (by kernel_rfl) ?_ _
                  have B3 : Hid (Below wr.heap.size wr W3) := s3.2.2
                  have A3 := AE.out.below B3.out
                  have A4 : Hid (AtW W3 (w.heap.size + 1) x y) := A3
                  have R4 : Hid (AtW W3 w.heap.size 0 0) := RE.out.below B3.out
                  have E3 : Hid (Below w.heap.size w W3) := BE.out.trans (B3.out.mono BE.out.size)
                  have y0 := x3.1 0 (by omega)
                  have y1 := x3.1 1 (by omega)
                  simp only [two] at y0 y1
                  clear s3 x3 B3 AE RE BE TT
                  obtain ⟨z0, z1, z2, z3, z4⟩ := A3
                  cases b'
                  · go_wp2_with fail
                    exact ⟨out_step hlt CE.out (by omega) (by omega) DE.out IE.out (hi_word V0.out g) (lo_word _) (.inr (.inl ⟨rfl, V_words _⟩)) A4.out R4.out E3.out, by simp [intOf]; omega⟩
                  · go_wp2_with fail
                    exact ⟨out_step hlt CE.out (by omega) (by omega) DE.out IE.out (hi_word V0.out g) (lo_word _) (.inr (.inl ⟨rfl, V_words _⟩)) A4.out R4.out E3.out, by simp [intOf]; omega⟩
                exact AllReadyH.nil
              exact AllReadyH.nil
            exact AllReadyH.nil
          · skip
            refine wp_region_held_drew (S := fun W' => W'.cell? ⟨T, 0, none⟩ = some (.int .u64 p) ∧ W'.cell? ⟨T, 1, none⟩ = some (.int .u64 q) ∧ Hid (Below wr.heap.size wr W')) (by kernel_rfl) ?_ (fun hHeld => ?_)
            · exact ⟨v0, v1, (Below.refl _ _).drew⟩
            refine take_at (i := 0) (v := ?_) (some 64) rfl rfl (by kernel_rfl) (by kernel_rfl) (by kernel_rfl) (fun _ _ _ h => h) (Or.inl ⟨by rfl, ?_⟩) (by assumption) ?_
            rotate_left
            · (intro w hSw; (try dsimp only at hSw); go_simp; try with_reducible rfl)
            simp only [Act.put, List.setIfInBounds_toArray, List.set_cons_zero, List.set_cons_succ]
            refine take_at (i := 1) (v := ?_) (some 65) rfl rfl (by kernel_rfl) (by kernel_rfl) (by kernel_rfl) (fun _ _ _ h => h) (Or.inl ⟨by rfl, ?_⟩) (by assumption) ?_
            rotate_left
            · (intro w hSw; (try dsimp only at hSw); go_simp; try with_reducible rfl)
            simp only [Act.put, List.setIfInBounds_toArray, List.set_cons_zero, List.set_cons_succ]
            refine take_at (i := 2) (v := ?_) (some 66) rfl rfl (by kernel_rfl) (by kernel_rfl) (by kernel_rfl) (fun _ _ _ h => h) (Or.inl ⟨by rfl, ?_⟩) (by assumption) ?_
            rotate_left
            · (intro w hSw; (try dsimp only at hSw); go_simp; try with_reducible rfl)
            simp only [Act.put, List.setIfInBounds_toArray, List.set_cons_zero, List.set_cons_succ]
            refine take_at (i := 3) (v := ?_) (some 67) rfl rfl (by kernel_rfl) (by kernel_rfl) (by kernel_rfl) (fun _ _ _ h => h) (Or.inl ⟨by rfl, ?_⟩) (by assumption) ?_
            rotate_left
            · (intro w hSw; (try dsimp only at hSw); go_simp; try with_reducible rfl)
            simp only [Act.put, List.setIfInBounds_toArray, List.set_cons_zero, List.set_cons_succ]
            refine take_at (i := 4) (v := ?_) (some 68) rfl rfl (by kernel_rfl) (by kernel_rfl) (by kernel_rfl) (fun _ _ _ h => h) (Or.inl ⟨by rfl, ?_⟩) (by assumption) ?_
            rotate_left
            · (intro w hSw; (try dsimp only at hSw); go_simp; try with_reducible rfl)
            simp only [Act.put, List.setIfInBounds_toArray, List.set_cons_zero, List.set_cons_succ]
            refine take_at (i := 5) (v := ?_) (some 69) rfl rfl (by kernel_rfl) (by kernel_rfl) (by kernel_rfl) (fun _ _ _ h => h) (Or.inl ⟨by rfl, ?_⟩) (by assumption) ?_
            rotate_left
            · (intro w hSw; (try dsimp only at hSw); go_simp; try with_reducible rfl)
            simp only [Act.put, List.setIfInBounds_toArray, List.set_cons_zero, List.set_cons_succ]
            obtain ⟨wd, hwd⟩ : ∃ wd, wd = wr.drew := ⟨_, rfl⟩
            rw [← hwd] at hHeld ⊢
            clear hwd
            refine wpAnyH_ready (rs := [6, 11]) (by kernel_rfl) (by simp) ?_
            refine all_call (i := 6) (some 70) 16 _ _ rfl rfl rfl (by rfl) #[.int .u64 (c - 48)] rfl Try.func16 (by kernel_rfl) (by kernel_rfl) ?_ ?_
            · refine (rof_one (c - 48) _).mono ?_
              rintro e W1 ⟨rfl, hB⟩
              refine ⟨_, rfl, keepB v4 hHeld (hB.mono (sizeB hHeld)), fun s1 => ?_⟩
              clear hB
              simp only [Act.put, List.setIfInBounds_toArray, List.set_cons_zero, List.set_cons_succ]
              refine wpAnyH_ready (rs := [7, 11]) (by kernel_rfl) (by simp) ?_
              refine all_call (i := 7) (some 71) 10 _ _ rfl rfl rfl (by rfl) #[U p q, U 0 (c - 48)] rfl Try.func10 (by kernel_rfl) (by kernel_rfl) ?_ ?_
              · refine (radd_sum p q 0 (c - 48) (V p q + (c - 48)) _ hp hq word_zero WC.out (by unfold V; omega)).mono ?_
                rintro e W2 ⟨rfl, hB⟩
                rw [sumV_over (t := (V p q + (c - 48))) g]
                refine ⟨_, rfl, keepB v4 s1 (hB.mono (sizeB s1)), fun s2 => ?_⟩
                clear hB
                simp only [Act.put, List.setIfInBounds_toArray, List.set_cons_zero, List.set_cons_succ]
                refine take_at (i := 8) (v := ?_) (some 63) rfl rfl (by kernel_rfl) (by kernel_rfl) (by kernel_rfl) (fun _ _ _ h => h) (Or.inl ⟨by rfl, ?_⟩) (by assumption) ?_
                rotate_left
                · (intro w hSw; (try dsimp only at hSw); go_simp; try with_reducible rfl)
                simp only [Act.put, List.setIfInBounds_toArray, List.set_cons_zero, List.set_cons_succ]
                refine take_at (i := 9) (v := ?_) (some 72) rfl rfl (by kernel_rfl) (by kernel_rfl) (by kernel_rfl) (fun _ _ _ h => h) (Or.inl ⟨by rfl, ?_⟩) (by assumption) ?_
                rotate_left
                · (intro w hSw; (try dsimp only at hSw); go_simp; try with_reducible rfl)
                simp only [Act.put, List.setIfInBounds_toArray, List.set_cons_zero, List.set_cons_succ]
                refine take_at (i := 10) (v := ?_) (some 73) rfl rfl (by kernel_rfl) (by kernel_rfl) (by kernel_rfl) (fun _ _ _ h => h) (Or.inl ⟨by rfl, ?_⟩) (by assumption) ?_
                rotate_left
                · (intro w hSw; (try dsimp only at hSw); go_simp; try with_reducible rfl)
                simp only [Act.put, List.setIfInBounds_toArray, List.set_cons_zero, List.set_cons_succ]
                refine wpAnyH_ready (rs := [11]) (by kernel_rfl) (by simp) ?_
                refine all_alloc (i := 11) (some 11) 24 rfl rfl rfl (by rfl) .u64 2 (by kernel_rfl) ?_ ?_
                · intro X W3 hn x3 hB
                  have bX := Nat.le_trans (sizeB s2) hn
                  refine ⟨keepB v4 s2 (hB.mono (sizeB s2)), fun s3 => ?_⟩
                  clear hB hn
                  simp only [Act.put, List.setIfInBounds_toArray, List.set_cons_zero, List.set_cons_succ]
                  refine wpAnyH_ready (rs := [12]) (by kernel_rfl) (by simp) ?_
                  refine all_store (i := 12) none 24 _ _ rfl rfl rfl (by rfl) X .u64 2 (two 0 0) _ rfl rfl x3 (by kernel_rfl) ?_ AllReadyH.nil
                  intro W3 x3 hB
                  refine ⟨keepB v4 s3 (hB.below bX (sizeB s3)), fun s3 => ?_⟩
                  clear hB
                  simp only [Act.put]
                  refine take_at (i := 13) (v := ?_) (some 12) rfl rfl (by kernel_rfl) (by kernel_rfl) (by kernel_rfl) (fun _ _ _ h => h) (Or.inl ⟨by rfl, ?_⟩) (by assumption) ?_
                  rotate_left
                  · (intro w hSw; (try dsimp only at hSw); go_simp; try with_reducible rfl)
                  simp only [Act.put, List.setIfInBounds_toArray, List.set_cons_zero, List.set_cons_succ]
                  refine wpAnyH_done (by kernel_rfl) ?_ _
                  have B3 : Hid (Below wr.heap.size wr W3) := s3.2.2
                  have A3 := AE.out.below B3.out
                  have A4 : Hid (AtW W3 (w.heap.size + 1) x y) := A3
                  have R4 : Hid (AtW W3 w.heap.size 0 0) := RE.out.below B3.out
                  have E3 : Hid (Below w.heap.size w W3) := BE.out.trans (B3.out.mono BE.out.size)
                  have y0 := x3.1 0 (by omega)
                  have y1 := x3.1 1 (by omega)
                  simp only [two] at y0 y1
                  clear s3 x3 B3 AE RE BE TT
                  obtain ⟨z0, z1, z2, z3, z4⟩ := A3
                  cases b'
                  · go_wp2_with fail
                    exact ⟨out_step hlt CE.out (by omega) (by omega) DE.out IE.out word_zero word_zero (.inr (.inr ⟨rfl, by omega⟩)) A4.out R4.out E3.out, by simp [intOf]; omega⟩
                  · go_wp2_with fail
                    exact ⟨out_step hlt CE.out (by omega) (by omega) DE.out IE.out word_zero word_zero (.inl ⟨rfl, rfl⟩) A4.out R4.out E3.out, by simp [intOf]; omega⟩
                exact AllReadyH.nil
              refine all_alloc (i := 11) (some 11) 24 rfl rfl rfl (by rfl) .u64 2 (by kernel_rfl) ?_ ?_
              · intro X W4 hn x4 hB
                have bX := Nat.le_trans (sizeB s1) hn
                refine ⟨keepB v4 s1 (hB.mono (sizeB s1)), fun s4 => ?_⟩
                clear hB hn
                simp only [Act.put, List.setIfInBounds_toArray, List.set_cons_zero, List.set_cons_succ]
                refine wpAnyH_ready (rs := [7]) (by kernel_rfl) (by simp) ?_
                refine all_call (i := 7) (some 71) 10 _ _ rfl rfl rfl (by rfl) #[U p q, U 0 (c - 48)] rfl Try.func10 (by kernel_rfl) (by kernel_rfl) ?_ ?_
                · refine (radd_sum p q 0 (c - 48) (V p q + (c - 48)) _ hp hq word_zero WC.out (by unfold V; omega)).mono ?_
                  rintro e W5 ⟨rfl, hB⟩
                  rw [sumV_over (t := (V p q + (c - 48))) g]
                  refine ⟨_, rfl, keepB v4 s4 (hB.mono (sizeB s4)), fun s5 => ?_⟩
                  have x5 := x4.below hB
                  clear hB
                  simp only [Act.put, List.setIfInBounds_toArray, List.set_cons_zero, List.set_cons_succ]
                  refine take_at (i := 8) (v := ?_) (some 63) rfl rfl (by kernel_rfl) (by kernel_rfl) (by kernel_rfl) (fun _ _ _ h => h) (Or.inl ⟨by rfl, ?_⟩) (by assumption) ?_
                  rotate_left
                  · (intro w hSw; (try dsimp only at hSw); go_simp; try with_reducible rfl)
                  simp only [Act.put, List.setIfInBounds_toArray, List.set_cons_zero, List.set_cons_succ]
                  refine take_at (i := 9) (v := ?_) (some 72) rfl rfl (by kernel_rfl) (by kernel_rfl) (by kernel_rfl) (fun _ _ _ h => h) (Or.inl ⟨by rfl, ?_⟩) (by assumption) ?_
                  rotate_left
                  · (intro w hSw; (try dsimp only at hSw); go_simp; try with_reducible rfl)
                  simp only [Act.put, List.setIfInBounds_toArray, List.set_cons_zero, List.set_cons_succ]
                  refine take_at (i := 10) (v := ?_) (some 73) rfl rfl (by kernel_rfl) (by kernel_rfl) (by kernel_rfl) (fun _ _ _ h => h) (Or.inl ⟨by rfl, ?_⟩) (by assumption) ?_
                  rotate_left
                  · (intro w hSw; (try dsimp only at hSw); go_simp; try with_reducible rfl)
                  simp only [Act.put, List.setIfInBounds_toArray, List.set_cons_zero, List.set_cons_succ]
                  refine wpAnyH_ready (rs := [12]) (by kernel_rfl) (by simp) ?_
                  refine all_store (i := 12) none 24 _ _ rfl rfl rfl (by rfl) X .u64 2 (two 0 0) _ rfl rfl x5 (by kernel_rfl) ?_ AllReadyH.nil
                  intro W3 x3 hB
                  refine ⟨keepB v4 s5 (hB.below bX (sizeB s5)), fun s3 => ?_⟩
                  clear hB
                  simp only [Act.put]
                  refine take_at (i := 13) (v := ?_) (some 12) rfl rfl (by kernel_rfl) (by kernel_rfl) (by kernel_rfl) (fun _ _ _ h => h) (Or.inl ⟨by rfl, ?_⟩) (by assumption) ?_
                  rotate_left
                  · (intro w hSw; (try dsimp only at hSw); go_simp; try with_reducible rfl)
                  simp only [Act.put, List.setIfInBounds_toArray, List.set_cons_zero, List.set_cons_succ]
                  refine wpAnyH_done (by kernel_rfl) ?_ _
                  have B3 : Hid (Below wr.heap.size wr W3) := s3.2.2
                  have A3 := AE.out.below B3.out
                  have A4 : Hid (AtW W3 (w.heap.size + 1) x y) := A3
                  have R4 : Hid (AtW W3 w.heap.size 0 0) := RE.out.below B3.out
                  have E3 : Hid (Below w.heap.size w W3) := BE.out.trans (B3.out.mono BE.out.size)
                  have y0 := x3.1 0 (by omega)
                  have y1 := x3.1 1 (by omega)
                  simp only [two] at y0 y1
                  clear s3 x3 B3 AE RE BE TT
                  obtain ⟨z0, z1, z2, z3, z4⟩ := A3
                  cases b'
                  · go_wp2_with fail
                    exact ⟨out_step hlt CE.out (by omega) (by omega) DE.out IE.out word_zero word_zero (.inr (.inr ⟨rfl, by omega⟩)) A4.out R4.out E3.out, by simp [intOf]; omega⟩
                  · go_wp2_with fail
                    exact ⟨out_step hlt CE.out (by omega) (by omega) DE.out IE.out word_zero word_zero (.inl ⟨rfl, rfl⟩) A4.out R4.out E3.out, by simp [intOf]; omega⟩
                exact AllReadyH.nil
              exact AllReadyH.nil
            refine all_alloc (i := 11) (some 11) 24 rfl rfl rfl (by rfl) .u64 2 (by kernel_rfl) ?_ ?_
            · intro X W6 hn x6 hB
              have bX := Nat.le_trans (sizeB hHeld) hn
              refine ⟨keepB v4 hHeld (hB.mono (sizeB hHeld)), fun s6 => ?_⟩
              clear hB hn
              simp only [Act.put, List.setIfInBounds_toArray, List.set_cons_zero, List.set_cons_succ]
              refine wpAnyH_ready (rs := [6]) (by kernel_rfl) (by simp) ?_
              refine all_call (i := 6) (some 70) 16 _ _ rfl rfl rfl (by rfl) #[.int .u64 (c - 48)] rfl Try.func16 (by kernel_rfl) (by kernel_rfl) ?_ ?_
              · refine (rof_one (c - 48) _).mono ?_
                rintro e W7 ⟨rfl, hB⟩
                refine ⟨_, rfl, keepB v4 s6 (hB.mono (sizeB s6)), fun s7 => ?_⟩
                have x7 := x6.below hB
                clear hB
                simp only [Act.put, List.setIfInBounds_toArray, List.set_cons_zero, List.set_cons_succ]
                refine wpAnyH_ready (rs := [7]) (by kernel_rfl) (by simp) ?_
                refine all_call (i := 7) (some 71) 10 _ _ rfl rfl rfl (by rfl) #[U p q, U 0 (c - 48)] rfl Try.func10 (by kernel_rfl) (by kernel_rfl) ?_ ?_
                · refine (radd_sum p q 0 (c - 48) (V p q + (c - 48)) _ hp hq word_zero WC.out (by unfold V; omega)).mono ?_
                  rintro e W8 ⟨rfl, hB⟩
                  rw [sumV_over (t := (V p q + (c - 48))) g]
                  refine ⟨_, rfl, keepB v4 s7 (hB.mono (sizeB s7)), fun s8 => ?_⟩
                  have x8 := x7.below hB
                  clear hB
                  simp only [Act.put, List.setIfInBounds_toArray, List.set_cons_zero, List.set_cons_succ]
                  refine take_at (i := 8) (v := ?_) (some 63) rfl rfl (by kernel_rfl) (by kernel_rfl) (by kernel_rfl) (fun _ _ _ h => h) (Or.inl ⟨by rfl, ?_⟩) (by assumption) ?_
                  rotate_left
                  · (intro w hSw; (try dsimp only at hSw); go_simp; try with_reducible rfl)
                  simp only [Act.put, List.setIfInBounds_toArray, List.set_cons_zero, List.set_cons_succ]
                  refine take_at (i := 9) (v := ?_) (some 72) rfl rfl (by kernel_rfl) (by kernel_rfl) (by kernel_rfl) (fun _ _ _ h => h) (Or.inl ⟨by rfl, ?_⟩) (by assumption) ?_
                  rotate_left
                  · (intro w hSw; (try dsimp only at hSw); go_simp; try with_reducible rfl)
                  simp only [Act.put, List.setIfInBounds_toArray, List.set_cons_zero, List.set_cons_succ]
                  refine take_at (i := 10) (v := ?_) (some 73) rfl rfl (by kernel_rfl) (by kernel_rfl) (by kernel_rfl) (fun _ _ _ h => h) (Or.inl ⟨by rfl, ?_⟩) (by assumption) ?_
                  rotate_left
                  · (intro w hSw; (try dsimp only at hSw); go_simp; try with_reducible rfl)
                  simp only [Act.put, List.setIfInBounds_toArray, List.set_cons_zero, List.set_cons_succ]
                  refine wpAnyH_ready (rs := [12]) (by kernel_rfl) (by simp) ?_
                  refine all_store (i := 12) none 24 _ _ rfl rfl rfl (by rfl) X .u64 2 (two 0 0) _ rfl rfl x8 (by kernel_rfl) ?_ AllReadyH.nil
                  intro W3 x3 hB
                  refine ⟨keepB v4 s8 (hB.below bX (sizeB s8)), fun s3 => ?_⟩
                  clear hB
                  simp only [Act.put]
                  refine take_at (i := 13) (v := ?_) (some 12) rfl rfl (by kernel_rfl) (by kernel_rfl) (by kernel_rfl) (fun _ _ _ h => h) (Or.inl ⟨by rfl, ?_⟩) (by assumption) ?_
                  rotate_left
                  · (intro w hSw; (try dsimp only at hSw); go_simp; try with_reducible rfl)
                  simp only [Act.put, List.setIfInBounds_toArray, List.set_cons_zero, List.set_cons_succ]
                  refine wpAnyH_done (by kernel_rfl) ?_ _
                  have B3 : Hid (Below wr.heap.size wr W3) := s3.2.2
                  have A3 := AE.out.below B3.out
                  have A4 : Hid (AtW W3 (w.heap.size + 1) x y) := A3
                  have R4 : Hid (AtW W3 w.heap.size 0 0) := RE.out.below B3.out
                  have E3 : Hid (Below w.heap.size w W3) := BE.out.trans (B3.out.mono BE.out.size)
                  have y0 := x3.1 0 (by omega)
                  have y1 := x3.1 1 (by omega)
                  simp only [two] at y0 y1
                  clear s3 x3 B3 AE RE BE TT
                  obtain ⟨z0, z1, z2, z3, z4⟩ := A3
                  cases b'
                  · go_wp2_with fail
                    exact ⟨out_step hlt CE.out (by omega) (by omega) DE.out IE.out word_zero word_zero (.inr (.inr ⟨rfl, by omega⟩)) A4.out R4.out E3.out, by simp [intOf]; omega⟩
                  · go_wp2_with fail
                    exact ⟨out_step hlt CE.out (by omega) (by omega) DE.out IE.out word_zero word_zero (.inl ⟨rfl, rfl⟩) A4.out R4.out E3.out, by simp [intOf]; omega⟩
                exact AllReadyH.nil
              exact AllReadyH.nil
            exact AllReadyH.nil
    · obtain rfl : k = s.size := by omega
      have FIN : Hid (RPost s (.returned (if b then Value.tuple #[U 0 0, .int .i64 15] else .tuple #[U x y, .int .i64 0]))) := by
        have h0 := VE.out.last
        rw [show s.data.toList.take s.size = s.data.toList from List.take_of_length_le (Nat.le_of_eq Array.length_toList)] at h0
        rw [h0]
        exact .inl ⟨⟨fun i h => DE.out i h h, hpos, hfirst.out⟩, rfl⟩
      obtain ⟨a0, a1, a2, a3, a4⟩ := hA
      obtain ⟨r0, r1, r2, r3, r4⟩ := hR
      cases b
      · go_wp2_with fail
        exact bodyPost_ret (v := .tuple #[U x y, .int .i64 0]) (by simp [results, Try.results33, go_sem, r0, r1]) rfl ⟨FIN.out, sum_below2 BE.out (Nat.le_refl _)⟩
      · go_wp2_with fail
        exact bodyPost_ret (v := .tuple #[U 0 0, .int .i64 15]) (by simp [results, Try.results33, go_sem, r0, r1]) rfl ⟨FIN.out, sum_below2 BE.out (Nat.le_refl _)⟩
end Go.Proofs.Ytkpkehbhgfbckaa
