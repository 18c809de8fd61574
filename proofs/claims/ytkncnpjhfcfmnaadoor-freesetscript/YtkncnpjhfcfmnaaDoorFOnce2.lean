/-
  Walks, not a claim by itself: no block is taken twice: the acts. By the verifier.
-/
import Derived.Test.YtkncnpjhfcfmnaaDoorFOnce
namespace Go.Proofs.YtkncnpjhfcfmnaaDoor
open Go.RowKit Go.Shelf
attribute [local go_sem] Oper.semAt_some
def zeros64 (n : Nat) : Array Value := madeCells #[.int .i64 0] n
theorem make_ints (n : Nat) (h : n ≤ 100000) (w : World) : (Instr.makeSlice 61 (.int .i64 (n : Int)) (.int .i64 (n : Int))).run Tryd.prog w = .ok (.slice (some ⟨w.heap.size, 0, none⟩) n n) (w.alloc (.cells (zeros64 n) 3)) :=
  run_make_row' 61 3 (.int .i64 0) 8 Tryd.underlying61 (by kernel_rfl) rfl .i64 .i64 n (by omega) (by omega) w
theorem IRow.made64 (w : World) (n : Nat) (T : TypeId) : IRow (w.alloc (.cells (zeros64 n) T)) w.heap.size .i64 n (fun _ => 0) := by
  refine ⟨fun j hj => ?_, fun j => by simp [go_sem], by simp⟩
  rw [World.cell?_alloc_at _ _ _ _ rfl]
  simp [zeros64, madeCells, hj, Nat.mod_one]
theorem meas_up (n j : Nat) (h : j + 1 ≤ n) : n + 1 - (RowKit.intOf (.int .i64 ((j : Int) + 1 + 1))).toNat < n + 1 - (RowKit.intOf (.int .i64 ((j : Int) + 1))).toNat := by
  simp [RowKit.intOf]
  omega
/-- Settled up to j. -/
def mixH (h : Nat → Nat) (j i : Nat) : Nat := if i < j then setl h i else h i
theorem mixH_zero (h : Nat → Nat) : mixH h 0 = h := by funext i; simp [mixH]
theorem mixH_step (h : Nat → Nat) (j : Nat) (hle : h j ≤ 2) : upd (isF (mixH h j)) (j + 1) (((h j : Nat) : Int) % 2) = isF (mixH h (j + 1)) := by
  funext q
  unfold upd isF mixH
  by_cases e : q = j + 1
  · subst e
    rw [if_pos rfl, if_neg (by omega), Nat.add_sub_cancel, if_pos (by omega)]
    unfold setl
    have h3 : h j = 0 ∨ h j = 1 ∨ h j = 2 := by omega
    rcases h3 with h3 | h3 | h3 <;> rw [h3] <;> rfl
  · rw [if_neg e]
    by_cases e0 : q = 0
    · rw [if_pos e0, if_pos e0]
    · rw [if_neg e0, if_neg e0]
      by_cases e1 : q - 1 < j
      · rw [if_pos e1, if_pos (by omega)]
      · rw [if_neg e1, if_neg (by omega)]
theorem mixH_all {n : Nat} {h : Nat → Nat} (k : SOk n h) : isF (mixH h n) = isF (setl h) := by
  have : mixH h n = setl h := by
    funext i
    unfold mixH
    by_cases e : i < n
    · rw [if_pos e]
    · rw [if_neg e]
      unfold setl
      rw [k.out i (by omega)]
      rfl
  rw [this]
theorem cnt_all {n : Nat} {h : Nat → Nat} (k : SOk n h) : ∀ m, cnt h 0 m + cnt h 1 m + cnt h 2 m = m
  | 0 => rfl
  | m + 1 => by
    have ih := cnt_all k m
    have hle := k.le m
    have h3 : h m = 0 ∨ h m = 1 ∨ h m = 2 := by omega
    unfold cnt
    rcases h3 with h3 | h3 | h3 <;> rw [h3] <;> simp <;> omega
set_option maxRecDepth 100000 in
set_option maxHeartbeats 4000000 in
theorem once_near (n m C : Nat) (a : Option Addr) (KF NF : Nat → Int) (W : World) (hT : DTab W) (h0 : 0 < W.heap.size) (n1 : 1 ≤ n) (n2 : n ≤ 512) (hm : m ≤ 200) (hA : AArg W a m KF NF) : Calls Tryd.prog 7 #[.int .i64 (n : Int), .slice a m C] W fun e w' => e = .returned (.bool true) ∧ Below W.heap.size W w' := by
  refine (callsIn_wide (n := 3)).1 ?_
  have K := hidIt (known_ok W hT h0)
  have NW := hidIt fun (u : World) => new_ok u n n1 n2
  have HA := hidIt hA
  have HT := hidIt hT
  have Z := hidIt h0
  have e1 : ((n : Int) < 1) = False := by simp; omega
  have e2 : (512 < (n : Int)) = False := by simp; omega
  have e3 : (200 < (m : Int)) = False := by simp; omega
  have e4 : IntKind.i64.wrap ((n : Int) + 1) = ((n + 1 : Nat) : Int) := by rw [IntKind.wrap_i64]; omega
  have e5 : wrap64 ((n : Int) + 1) = ((n + 1 : Nat) : Int) := by unfold wrap64; omega
  have mk : ∀ w, (Instr.makeSlice 61 (.int .i64 ((n : Int) + 1)) (.int .i64 ((n : Int) + 1))).run Tryd.prog w = .ok (.slice (some ⟨w.heap.size, 0, none⟩) (n + 1) (n + 1)) (w.alloc (.cells (zeros64 (n + 1)) 3)) := fun w => make_ints (n + 1) (by omega) w
  clear hT h0 hA
  refine callsIn_of_wp Tryd.func7 rfl trivial ?_ rfl
  simp only [Tryd.ntmps7, List.size_toArray, List.length_cons, List.length_nil, Nat.reduceAdd, Nat.reduceSub, Array.replicate_succ, Array.replicate_zero, List.push_toArray, List.append_toArray, List.nil_append, List.cons_append]
  gi_wp2
  refine ⟨trivial, ?_⟩
  refine CallsIn.mono ((callsIn_wide (n := _)).2 K.out) ?_
  rintro e W1 ⟨rfl, hb⟩
  have B1 := hidIt hb
  clear hb K
  gi_wp2
  refine ⟨trivial, ?_⟩
  refine CallsIn.mono ((callsIn_wide (n := _)).2 (NW.out W1)) ?_
  rintro e W2 ⟨rfl, hs, hb⟩
  have S2 := hidIt hs
  have B2 := hidIt hb
  clear hb hs NW
  gi_wp2
  have I0 : OnI W W1.heap.size W2.heap.size n (iniH n) (W2.alloc (.cells (zeros64 (n + 1)) 3)) := by
    have sz : W1.heap.size < W2.heap.size := S2.out.l
    have bl : Below W2.heap.size W2 (W2.alloc (.cells (zeros64 (n + 1)) 3)) := (Below.refl _ _).alloc (Nat.le_refl _) _
    have b2 := B1.out.trans (B2.out.mono B1.out.size)
    have b3 := b2.trans (bl.mono b2.size)
    refine ⟨S2.out.below bl, ini_sok n n1 n2, (IRow.made64 W2 (n + 1) _).congr (fun j hj => ?_), HT.out.below b3 Z.out, b3, B1.out.size, b2.size, by omega, Z.out⟩
    unfold isF iniH
    by_cases e : j = 0
    · rw [if_pos e]
    · rw [if_neg e, if_pos (by omega)]; rfl
  generalize W1.heap.size = b at *
  generalize W2.heap.size = B at *
  clear S2 B2 B1 HT mk
  gi_loopw [9] (fun i wr => ∃ k : Nat, k ≤ m ∧ i = .int .i64 (k : Int) ∧ ∃ h, OnI W b B n h wr) (fun i _ => m - (RowKit.intOf i).toNat)
  case atStart => exact ⟨0, Nat.zero_le _, rfl, _, I0⟩
  case round =>
    obtain ⟨k, hk, rfl, h, hI⟩ := hrel
    clear I0
    have I := hidIt hI
    clear hI
    by_cases hlt : k < m
    · obtain ⟨ab, off, ha, c1, c2, _⟩ := (HA.out.below I.out.w) k hlt
      subst ha
      have i0 : (k : Int) < (m : Int) := by omega
      have i1 : (0 : Int) ≤ (k : Int) := by omega
      gi_wp2
      refine ⟨trivial, ?_⟩
      refine CallsIn.mono ((callsIn_wide (n := _)).2 (pick_any (NF k) n wr n1 (by omega))) ?_
      rintro e w' ⟨x, hx, rfl, hw⟩
      subst w'
      have i2 : IntKind.i64.wrap (1 + (x : Int)) = 1 + (x : Int) := by rw [IntKind.wrap_i64]; omega
      have i3 : wrap64 (1 + (x : Int)) = 1 + (x : Int) := by unfold wrap64; omega
      gi_wp2
      refine ⟨trivial, ?_⟩
      refine CallsIn.mono ((callsIn_wide (n := _)).2 (pick_any (KF k) 4 wr (by decide) (by decide))) ?_
      rintro e w' ⟨q, hq, rfl, hw⟩
      subst w'
      clear c1 c2
      have q4 : q = 0 ∨ q = 1 ∨ q = 2 ∨ q = 3 := by omega
      rcases q4 with rfl | rfl | rfl | rfl
      · gi_wp2
        gi_loopw [11, 12] (fun lo kk wr' => wr' = wr ∧ ∃ j : Nat, j ≤ n ∧ kk = .int .i64 (j : Int) ∧ lo = .int .i64 (lvN (lowFrom (fr h) j (n - j)))) (fun _ kk _ => (RowKit.intOf kk).toNat)
        case atStart => exact ⟨rfl, n, Nat.le_refl _, rfl, by rw [Nat.sub_self]; rfl⟩
        case round =>
          obtain ⟨rfl, j, hj, rfl, rfl⟩ := hrel
          by_cases hj1 : 1 ≤ j
          · obtain ⟨p, rfl⟩ : ∃ p, j = p + 1 := ⟨j - 1, by omega⟩
            have cc : wr.cell? ⟨B, p + 1, none⟩ = some (.int .i64 ((h p : Nat) : Int)) := by
              have := I.out.r.1 (p + 1) (by omega)
              unfold isF at this
              rw [if_neg (by omega), Nat.add_sub_cancel] at this
              exact this
            have ls := low_stepN h n p (by omega)
            have j1 : (1 : Int) ≤ ((p + 1 : Nat) : Int) := by omega
            have j2 : ((p + 1 : Nat) : Int) < ((n + 1 : Nat) : Int) := by omega
            have j3 : (0 : Int) ≤ ((p + 1 : Nat) : Int) := by omega
            have j4 : ((p + 1 : Nat) : Int).toNat = p + 1 := by omega
            have j5 : IntKind.i64.wrap (((p + 1 : Nat) : Int) - 1) = (p : Int) := by rw [IntKind.wrap_i64]; omega
            have j6 : wrap64 (((p + 1 : Nat) : Int) - 1) = (p : Int) := by unfold wrap64; omega
            generalize hz : ((p + 1 : Nat) : Int) = z at *
            by_cases hp : h p = 0
            · rw [if_pos hp] at ls
              have j7 : (((h p : Nat) : Int) == 0) = true := by simp [hp]
              have LS := hidIt ls
              have HZ := hidIt hz
              clear ls hp hz
              generalize ((h p : Nat) : Int) = hp' at *
              gi_wp2
              go_roundw
              case rel => exact ⟨trivial, p, by omega, rfl, by rw [LS.out, ← HZ.out]; simp⟩
              case measure => rw [← HZ.out]; simp [RowKit.intOf]
            · rw [if_neg hp] at ls
              have j7 : (((h p : Nat) : Int) == 0) = false := by simpa using hp
              have LS := hidIt ls
              have HZ := hidIt hz
              clear ls hp hz
              generalize ((h p : Nat) : Int) = hp' at *
              gi_wp2
              go_roundw
              case rel => exact ⟨trivial, p, by omega, rfl, by rw [LS.out]⟩
              case measure => rw [← HZ.out]; simp [RowKit.intOf]
          · obtain rfl : j = 0 := by omega
            have j1 : ¬ (1 : Int) ≤ 0 := by omega
            rw [Nat.sub_zero, low_n I.out.k]
            rw [show ((0 : Nat) : Int) = 0 from rfl]
            gi_wp2
            refine ⟨trivial, ?_⟩
            refine CallsIn.mono ((callsIn_wide (n := _)).2 (acquire_ok wr b n h I.out.s I.out.k I.out.t)) ?_
            rintro e W3 ⟨rfl, s3, b3⟩
            have H3 := hidIt (I.out.half s3 (acq_sok I.out.k) b3)
            clear s3 b3
            cases hl : low (fr h) with
            | none =>
              rw [hl] at H3
              have FIN := hidIt (H3.out.whole rfl)
              clear H3
              simp only [acqV, lvN]
              gi_wp2
              go_roundw
              case rel => exact ⟨k + 1, by omega, by simp, _, FIN.out⟩
              case measure => simp [RowKit.intOf]; omega
            | some i =>
              rw [hl] at H3
              have iN := (low_free I.out.k hl).1
              have FIN := hidIt ((H3.out.put (i + 1) 1 (isF_set h i 1 (by decide))).whole rfl)
              have cc := H3.out.r.1 (i + 1) (by omega)
              have ff := H3.out.r.2.1 (i + 1)
              have j1 : (0 : Int) < (i : Int) + 1 := by omega
              have j2 : (i : Int) + 1 < ((n + 1 : Nat) : Int) := by omega
              have j3 : (0 : Int) ≤ (i : Int) + 1 := by omega
              have j4 : ((i : Int) + 1).toNat = i + 1 := by omega
              clear H3
              simp only [acqV, lvN]
              gi_wp2
              go_roundw
              case rel => exact ⟨k + 1, by omega, by simp, _, FIN.out⟩
              case measure => simp [RowKit.intOf]; omega
      · have hle := I.out.k.le x
        have hs3 : h x = 0 ∨ h x = 1 ∨ h x = 2 := by omega
        have j1 : (0 : Int) ≤ 1 + (x : Int) := by omega
        have j2 : 1 + (x : Int) < ((n + 1 : Nat) : Int) := by omega
        have j3 : (1 + (x : Int)).toNat = x + 1 := by omega
        have j4 : 1 + (x : Int) < (n : Int) + 1 := by omega
        have hI' : hasI n (1 + (x : Int)) = true := by rw [hasI_iff]; omega
        rcases hs3 with hv | hv | hv
        · have cc : wr.cell? ⟨B, x + 1, none⟩ = some (.int .i64 0) := by
            have := I.out.r.1 (x + 1) (by omega)
            unfold isF at this
            rw [if_neg (by omega), Nat.add_sub_cancel, hv] at this
            exact this
          have TK : Hid (Calls Tryd.prog 24 #[.pointer (some ⟨b, 0, none⟩), .int .i64 (1 + (x : Int))] wr.drew fun e w' => e = .returned (.int .i64 0) ∧ OnH W b B n h (setH h x 1) w') := by
            have I' := I.out.kept (Y := wr.drew) (Below.refl _ _).drew
            refine (take_ok wr.drew b n h (1 + (x : Int)) I'.s I'.k).mono ?_
            rintro e w' ⟨rfl, q1, q2, _⟩
            have eE : turnE n h (1 + (x : Int)) 0 = 0 := by unfold turnE; rw [if_pos hI', show (1 + (x : Int)).toNat - 1 = x by omega, hv]; rfl
            have eH : turnH n h (1 + (x : Int)) 0 1 = setH h x 1 := by unfold turnH; rw [if_pos hI', show (1 + (x : Int)).toNat - 1 = x by omega, hv]; rfl
            rw [eE]
            rw [eH] at q1
            exact ⟨rfl, I'.half q1 (I'.k.set x 1 hx) q2⟩
          gi_wp2
          refine region_wd (S := fun X => X.cell? ⟨B, x + 1, none⟩ = some (.int .i64 0)) (by kernel_rfl) (by kernel_rfl) cc (fun hHeld => ?_)
          refine take_at (i := 0) (v := ?_) (some 113) rfl rfl (by kernel_rfl) (by kernel_rfl) (by kernel_rfl) (fun _ _ _ h => by cases h.1) (Or.inl ⟨by rfl, ?_⟩) (by assumption) ?_
          rotate_left
          · (intro w hSw; (try dsimp only at hSw); (try obtain _q := hSw); go_simp; try with_reducible rfl)
          simp only [Act.put, List.setIfInBounds_toArray, List.set_cons_zero, List.set_cons_succ]
          refine take_at (i := 1) (v := ?_) (some 114) rfl rfl (by kernel_rfl) (by kernel_rfl) (by kernel_rfl) (fun _ _ _ h => by cases h.1) (Or.inl ⟨by rfl, ?_⟩) (by assumption) ?_
          rotate_left
          · (intro w hSw; (try dsimp only at hSw); (try obtain _q := hSw); go_simp; try with_reducible rfl)
          simp only [Act.put, List.setIfInBounds_toArray, List.set_cons_zero, List.set_cons_succ]
          refine take_at (i := 4) (v := ?_) (some 117) rfl rfl (by kernel_rfl) (by kernel_rfl) (by kernel_rfl) (fun _ _ _ h => by cases h.1) (Or.inl ⟨by rfl, ?_⟩) (by assumption) ?_
          rotate_left
          · (intro w hSw; (try dsimp only at hSw); (try obtain _q := hSw); go_simp; try with_reducible rfl)
          simp only [Act.put, List.setIfInBounds_toArray, List.set_cons_zero, List.set_cons_succ]
          refine take_at (i := 5) (v := ?_) (some 118) rfl rfl (by kernel_rfl) (by kernel_rfl) (by kernel_rfl) (fun _ _ _ h => by cases h.1) (Or.inl ⟨by rfl, ?_⟩) (by assumption) ?_
          rotate_left
          · (intro w hSw; (try dsimp only at hSw); (try obtain _q := hSw); go_simp; try with_reducible rfl)
          simp only [Act.put, List.setIfInBounds_toArray, List.set_cons_zero, List.set_cons_succ]
          refine take_at (i := 6) (v := ?_) (some 119) rfl rfl (by kernel_rfl) (by kernel_rfl) (by kernel_rfl) (fun _ _ _ h => by cases h.1) (Or.inl ⟨by rfl, ?_⟩) (by assumption) ?_
          rotate_left
          · (intro w hSw; (try dsimp only at hSw); (try obtain _q := hSw); go_simp; try with_reducible rfl)
          simp only [Act.put, List.setIfInBounds_toArray, List.set_cons_zero, List.set_cons_succ]
          refine take_at (i := 7) (v := ?_) (some 120) rfl rfl (by kernel_rfl) (by kernel_rfl) (by kernel_rfl) (fun _ _ _ h => by cases h.1) (Or.inl ⟨by rfl, ?_⟩) (by assumption) ?_
          rotate_left
          · (intro w hSw; (try dsimp only at hSw); (try obtain _q := hSw); go_simp; try with_reducible rfl)
          simp only [Act.put, List.setIfInBounds_toArray, List.set_cons_zero, List.set_cons_succ]
          refine take_at (i := 8) (v := ?_) (some 121) rfl rfl (by kernel_rfl) (by kernel_rfl) (by kernel_rfl) (fun _ _ _ h => by cases h.1) (Or.inl ⟨by rfl, ?_⟩) (by assumption) ?_
          rotate_left
          · (intro w hSw; (try dsimp only at hSw); (try obtain _q := hSw); go_simp; try with_reducible rfl)
          simp only [Act.put, List.setIfInBounds_toArray, List.set_cons_zero, List.set_cons_succ]
          refine call_at (i := 2) (some 115) 24 _ _ rfl rfl rfl (by rfl) (by kernel_rfl) #[.pointer (some ⟨b, 0, none⟩), .int .i64 (1 + (x : Int))] rfl Tryd.func24 (by kernel_rfl) (by kernel_rfl) ?_
          refine TK.out.mono ?_
          rintro e W3 ⟨rfl, h3⟩
          have H3 := hidIt h3
          clear h3
          refine ⟨_, rfl, (by have := H3.out.r.1 (x + 1) (by omega); unfold isF at this; rw [if_neg (by omega), Nat.add_sub_cancel, hv] at this; exact this), fun hHeld => ?_⟩
          simp only [Act.put, List.setIfInBounds_toArray, List.set_cons_zero, List.set_cons_succ]
          refine take_at (i := 3) (v := ?_) (some 116) rfl rfl (by kernel_rfl) (by kernel_rfl) (by kernel_rfl) (fun _ _ _ h => by cases h.1) (Or.inl ⟨by rfl, ?_⟩) (by assumption) ?_
          rotate_left
          · (intro w hSw; (try dsimp only at hSw); (try obtain _q := hSw); go_simp; try with_reducible rfl)
          simp only [Act.put, List.setIfInBounds_toArray, List.set_cons_zero, List.set_cons_succ]
          refine take_at (i := 9) (v := ?_) (some 122) rfl rfl (by kernel_rfl) (by kernel_rfl) (by kernel_rfl) (fun _ _ _ h => by cases h.1) (Or.inl ⟨by rfl, ?_⟩) (by assumption) ?_
          rotate_left
          · (intro w hSw; (try dsimp only at hSw); (try obtain _q := hSw); go_simp; try with_reducible rfl)
          simp only [Act.put, List.setIfInBounds_toArray, List.set_cons_zero, List.set_cons_succ]
          refine wpAnyH_done (by kernel_rfl) ?_ _
          refine ⟨rfl, ?_⟩
          have FIN := hidIt ((H3.out.put (x + 1) 1 (isF_set h x 1 (by decide))).whole rfl)
          have ff := H3.out.r.2.1 (x + 1)
          clear cc TK hv
          gi_wp2
          go_roundw
          case rel => exact ⟨k + 1, by omega, by simp, _, FIN.out⟩
          case measure => simp [RowKit.intOf]; omega
        · have cc : wr.cell? ⟨B, x + 1, none⟩ = some (.int .i64 1) := by
            have := I.out.r.1 (x + 1) (by omega)
            unfold isF at this
            rw [if_neg (by omega), Nat.add_sub_cancel, hv] at this
            exact this
          have TK : Hid (Calls Tryd.prog 24 #[.pointer (some ⟨b, 0, none⟩), .int .i64 (1 + (x : Int))] wr.drew fun e w' => e = .returned (.int .i64 9) ∧ OnH W b B n h h w') := by
            have I' := I.out.kept (Y := wr.drew) (Below.refl _ _).drew
            refine (take_ok wr.drew b n h (1 + (x : Int)) I'.s I'.k).mono ?_
            rintro e w' ⟨rfl, q1, q2, _⟩
            have eE : turnE n h (1 + (x : Int)) 0 = 9 := by unfold turnE; rw [if_pos hI', show (1 + (x : Int)).toNat - 1 = x by omega, hv]; rfl
            have eH : turnH n h (1 + (x : Int)) 0 1 = h := by unfold turnH; rw [if_pos hI', show (1 + (x : Int)).toNat - 1 = x by omega, hv]; rfl
            rw [eE]
            rw [eH] at q1
            exact ⟨rfl, I'.half q1 (I'.k) q2⟩
          gi_wp2
          refine region_wd (S := fun X => X.cell? ⟨B, x + 1, none⟩ = some (.int .i64 1)) (by kernel_rfl) (by kernel_rfl) cc (fun hHeld => ?_)
          refine take_at (i := 0) (v := ?_) (some 113) rfl rfl (by kernel_rfl) (by kernel_rfl) (by kernel_rfl) (fun _ _ _ h => by cases h.1) (Or.inl ⟨by rfl, ?_⟩) (by assumption) ?_
          rotate_left
          · (intro w hSw; (try dsimp only at hSw); (try obtain _q := hSw); go_simp; try with_reducible rfl)
          simp only [Act.put, List.setIfInBounds_toArray, List.set_cons_zero, List.set_cons_succ]
          refine take_at (i := 1) (v := ?_) (some 114) rfl rfl (by kernel_rfl) (by kernel_rfl) (by kernel_rfl) (fun _ _ _ h => by cases h.1) (Or.inl ⟨by rfl, ?_⟩) (by assumption) ?_
          rotate_left
          · (intro w hSw; (try dsimp only at hSw); (try obtain _q := hSw); go_simp; try with_reducible rfl)
          simp only [Act.put, List.setIfInBounds_toArray, List.set_cons_zero, List.set_cons_succ]
          refine take_at (i := 4) (v := ?_) (some 117) rfl rfl (by kernel_rfl) (by kernel_rfl) (by kernel_rfl) (fun _ _ _ h => by cases h.1) (Or.inl ⟨by rfl, ?_⟩) (by assumption) ?_
          rotate_left
          · (intro w hSw; (try dsimp only at hSw); (try obtain _q := hSw); go_simp; try with_reducible rfl)
          simp only [Act.put, List.setIfInBounds_toArray, List.set_cons_zero, List.set_cons_succ]
          refine take_at (i := 5) (v := ?_) (some 118) rfl rfl (by kernel_rfl) (by kernel_rfl) (by kernel_rfl) (fun _ _ _ h => by cases h.1) (Or.inl ⟨by rfl, ?_⟩) (by assumption) ?_
          rotate_left
          · (intro w hSw; (try dsimp only at hSw); (try obtain _q := hSw); go_simp; try with_reducible rfl)
          simp only [Act.put, List.setIfInBounds_toArray, List.set_cons_zero, List.set_cons_succ]
          refine take_at (i := 6) (v := ?_) (some 119) rfl rfl (by kernel_rfl) (by kernel_rfl) (by kernel_rfl) (fun _ _ _ h => by cases h.1) (Or.inl ⟨by rfl, ?_⟩) (by assumption) ?_
          rotate_left
          · (intro w hSw; (try dsimp only at hSw); (try obtain _q := hSw); go_simp; try with_reducible rfl)
          simp only [Act.put, List.setIfInBounds_toArray, List.set_cons_zero, List.set_cons_succ]
          refine take_at (i := 7) (v := ?_) (some 120) rfl rfl (by kernel_rfl) (by kernel_rfl) (by kernel_rfl) (fun _ _ _ h => by cases h.1) (Or.inl ⟨by rfl, ?_⟩) (by assumption) ?_
          rotate_left
          · (intro w hSw; (try dsimp only at hSw); (try obtain _q := hSw); go_simp; try with_reducible rfl)
          simp only [Act.put, List.setIfInBounds_toArray, List.set_cons_zero, List.set_cons_succ]
          refine take_at (i := 8) (v := ?_) (some 121) rfl rfl (by kernel_rfl) (by kernel_rfl) (by kernel_rfl) (fun _ _ _ h => by cases h.1) (Or.inl ⟨by rfl, ?_⟩) (by assumption) ?_
          rotate_left
          · (intro w hSw; (try dsimp only at hSw); (try obtain _q := hSw); go_simp; try with_reducible rfl)
          simp only [Act.put, List.setIfInBounds_toArray, List.set_cons_zero, List.set_cons_succ]
          refine call_at (i := 2) (some 115) 24 _ _ rfl rfl rfl (by rfl) (by kernel_rfl) #[.pointer (some ⟨b, 0, none⟩), .int .i64 (1 + (x : Int))] rfl Tryd.func24 (by kernel_rfl) (by kernel_rfl) ?_
          refine TK.out.mono ?_
          rintro e W3 ⟨rfl, h3⟩
          have H3 := hidIt h3
          clear h3
          refine ⟨_, rfl, (by have := H3.out.r.1 (x + 1) (by omega); unfold isF at this; rw [if_neg (by omega), Nat.add_sub_cancel, hv] at this; exact this), fun hHeld => ?_⟩
          simp only [Act.put, List.setIfInBounds_toArray, List.set_cons_zero, List.set_cons_succ]
          refine take_at (i := 3) (v := ?_) (some 116) rfl rfl (by kernel_rfl) (by kernel_rfl) (by kernel_rfl) (fun _ _ _ h => by cases h.1) (Or.inl ⟨by rfl, ?_⟩) (by assumption) ?_
          rotate_left
          · (intro w hSw; (try dsimp only at hSw); (try obtain _q := hSw); go_simp; try with_reducible rfl)
          simp only [Act.put, List.setIfInBounds_toArray, List.set_cons_zero, List.set_cons_succ]
          refine take_at (i := 9) (v := ?_) (some 122) rfl rfl (by kernel_rfl) (by kernel_rfl) (by kernel_rfl) (fun _ _ _ h => by cases h.1) (Or.inl ⟨by rfl, ?_⟩) (by assumption) ?_
          rotate_left
          · (intro w hSw; (try dsimp only at hSw); (try obtain _q := hSw); go_simp; try with_reducible rfl)
          simp only [Act.put, List.setIfInBounds_toArray, List.set_cons_zero, List.set_cons_succ]
          refine wpAnyH_done (by kernel_rfl) ?_ _
          refine ⟨rfl, ?_⟩
          have FIN := hidIt ((H3.out.put (x + 1) 1 (by have := isF_same h x; rw [hv] at this; exact this)).whole rfl)
          have ff := H3.out.r.2.1 (x + 1)
          clear cc TK hv
          gi_wp2
          go_roundw
          case rel => exact ⟨k + 1, by omega, by simp, _, FIN.out⟩
          case measure => simp [RowKit.intOf]; omega
        · have cc : wr.cell? ⟨B, x + 1, none⟩ = some (.int .i64 2) := by
            have := I.out.r.1 (x + 1) (by omega)
            unfold isF at this
            rw [if_neg (by omega), Nat.add_sub_cancel, hv] at this
            exact this
          have TK : Hid (Calls Tryd.prog 24 #[.pointer (some ⟨b, 0, none⟩), .int .i64 (1 + (x : Int))] wr.drew fun e w' => e = .returned (.int .i64 9) ∧ OnH W b B n h h w') := by
            have I' := I.out.kept (Y := wr.drew) (Below.refl _ _).drew
            refine (take_ok wr.drew b n h (1 + (x : Int)) I'.s I'.k).mono ?_
            rintro e w' ⟨rfl, q1, q2, _⟩
            have eE : turnE n h (1 + (x : Int)) 0 = 9 := by unfold turnE; rw [if_pos hI', show (1 + (x : Int)).toNat - 1 = x by omega, hv]; rfl
            have eH : turnH n h (1 + (x : Int)) 0 1 = h := by unfold turnH; rw [if_pos hI', show (1 + (x : Int)).toNat - 1 = x by omega, hv]; rfl
            rw [eE]
            rw [eH] at q1
            exact ⟨rfl, I'.half q1 (I'.k) q2⟩
          gi_wp2
          refine region_wd (S := fun X => X.cell? ⟨B, x + 1, none⟩ = some (.int .i64 2)) (by kernel_rfl) (by kernel_rfl) cc (fun hHeld => ?_)
          refine take_at (i := 0) (v := ?_) (some 113) rfl rfl (by kernel_rfl) (by kernel_rfl) (by kernel_rfl) (fun _ _ _ h => by cases h.1) (Or.inl ⟨by rfl, ?_⟩) (by assumption) ?_
          rotate_left
          · (intro w hSw; (try dsimp only at hSw); (try obtain _q := hSw); go_simp; try with_reducible rfl)
          simp only [Act.put, List.setIfInBounds_toArray, List.set_cons_zero, List.set_cons_succ]
          refine take_at (i := 1) (v := ?_) (some 114) rfl rfl (by kernel_rfl) (by kernel_rfl) (by kernel_rfl) (fun _ _ _ h => by cases h.1) (Or.inl ⟨by rfl, ?_⟩) (by assumption) ?_
          rotate_left
          · (intro w hSw; (try dsimp only at hSw); (try obtain _q := hSw); go_simp; try with_reducible rfl)
          simp only [Act.put, List.setIfInBounds_toArray, List.set_cons_zero, List.set_cons_succ]
          refine take_at (i := 4) (v := ?_) (some 117) rfl rfl (by kernel_rfl) (by kernel_rfl) (by kernel_rfl) (fun _ _ _ h => by cases h.1) (Or.inl ⟨by rfl, ?_⟩) (by assumption) ?_
          rotate_left
          · (intro w hSw; (try dsimp only at hSw); (try obtain _q := hSw); go_simp; try with_reducible rfl)
          simp only [Act.put, List.setIfInBounds_toArray, List.set_cons_zero, List.set_cons_succ]
          refine take_at (i := 5) (v := ?_) (some 118) rfl rfl (by kernel_rfl) (by kernel_rfl) (by kernel_rfl) (fun _ _ _ h => by cases h.1) (Or.inl ⟨by rfl, ?_⟩) (by assumption) ?_
          rotate_left
          · (intro w hSw; (try dsimp only at hSw); (try obtain _q := hSw); go_simp; try with_reducible rfl)
          simp only [Act.put, List.setIfInBounds_toArray, List.set_cons_zero, List.set_cons_succ]
          refine take_at (i := 6) (v := ?_) (some 119) rfl rfl (by kernel_rfl) (by kernel_rfl) (by kernel_rfl) (fun _ _ _ h => by cases h.1) (Or.inl ⟨by rfl, ?_⟩) (by assumption) ?_
          rotate_left
          · (intro w hSw; (try dsimp only at hSw); (try obtain _q := hSw); go_simp; try with_reducible rfl)
          simp only [Act.put, List.setIfInBounds_toArray, List.set_cons_zero, List.set_cons_succ]
          refine take_at (i := 7) (v := ?_) (some 120) rfl rfl (by kernel_rfl) (by kernel_rfl) (by kernel_rfl) (fun _ _ _ h => by cases h.1) (Or.inl ⟨by rfl, ?_⟩) (by assumption) ?_
          rotate_left
          · (intro w hSw; (try dsimp only at hSw); (try obtain _q := hSw); go_simp; try with_reducible rfl)
          simp only [Act.put, List.setIfInBounds_toArray, List.set_cons_zero, List.set_cons_succ]
          refine take_at (i := 8) (v := ?_) (some 121) rfl rfl (by kernel_rfl) (by kernel_rfl) (by kernel_rfl) (fun _ _ _ h => by cases h.1) (Or.inl ⟨by rfl, ?_⟩) (by assumption) ?_
          rotate_left
          · (intro w hSw; (try dsimp only at hSw); (try obtain _q := hSw); go_simp; try with_reducible rfl)
          simp only [Act.put, List.setIfInBounds_toArray, List.set_cons_zero, List.set_cons_succ]
          refine call_at (i := 2) (some 115) 24 _ _ rfl rfl rfl (by rfl) (by kernel_rfl) #[.pointer (some ⟨b, 0, none⟩), .int .i64 (1 + (x : Int))] rfl Tryd.func24 (by kernel_rfl) (by kernel_rfl) ?_
          refine TK.out.mono ?_
          rintro e W3 ⟨rfl, h3⟩
          have H3 := hidIt h3
          clear h3
          refine ⟨_, rfl, (by have := H3.out.r.1 (x + 1) (by omega); unfold isF at this; rw [if_neg (by omega), Nat.add_sub_cancel, hv] at this; exact this), fun hHeld => ?_⟩
          simp only [Act.put, List.setIfInBounds_toArray, List.set_cons_zero, List.set_cons_succ]
          refine take_at (i := 3) (v := ?_) (some 116) rfl rfl (by kernel_rfl) (by kernel_rfl) (by kernel_rfl) (fun _ _ _ h => by cases h.1) (Or.inl ⟨by rfl, ?_⟩) (by assumption) ?_
          rotate_left
          · (intro w hSw; (try dsimp only at hSw); (try obtain _q := hSw); go_simp; try with_reducible rfl)
          simp only [Act.put, List.setIfInBounds_toArray, List.set_cons_zero, List.set_cons_succ]
          refine take_at (i := 9) (v := ?_) (some 122) rfl rfl (by kernel_rfl) (by kernel_rfl) (by kernel_rfl) (fun _ _ _ h => by cases h.1) (Or.inl ⟨by rfl, ?_⟩) (by assumption) ?_
          rotate_left
          · (intro w hSw; (try dsimp only at hSw); (try obtain _q := hSw); go_simp; try with_reducible rfl)
          simp only [Act.put, List.setIfInBounds_toArray, List.set_cons_zero, List.set_cons_succ]
          refine wpAnyH_done (by kernel_rfl) ?_ _
          refine ⟨rfl, ?_⟩
          have FIN := hidIt ((H3.out.put (x + 1) 2 (by have := isF_same h x; rw [hv] at this; exact this)).whole rfl)
          have ff := H3.out.r.2.1 (x + 1)
          clear cc TK hv
          gi_wp2
          go_roundw
          case rel => exact ⟨k + 1, by omega, by simp, _, FIN.out⟩
          case measure => simp [RowKit.intOf]; omega
      · have hle := I.out.k.le x
        have hs3 : h x = 0 ∨ h x = 1 ∨ h x = 2 := by omega
        have j1 : (0 : Int) ≤ 1 + (x : Int) := by omega
        have j2 : 1 + (x : Int) < ((n + 1 : Nat) : Int) := by omega
        have j3 : (1 + (x : Int)).toNat = x + 1 := by omega
        have j4 : 1 + (x : Int) < (n : Int) + 1 := by omega
        have hI' : hasI n (1 + (x : Int)) = true := by rw [hasI_iff]; omega
        rcases hs3 with hv | hv | hv
        · have cc : wr.cell? ⟨B, x + 1, none⟩ = some (.int .i64 0) := by
            have := I.out.r.1 (x + 1) (by omega)
            unfold isF at this
            rw [if_neg (by omega), Nat.add_sub_cancel, hv] at this
            exact this
          have TK : Hid (Calls Tryd.prog 25 #[.pointer (some ⟨b, 0, none⟩), .int .i64 (1 + (x : Int))] wr.drew fun e w' => e = .returned (.int .i64 9) ∧ OnH W b B n h h w') := by
            have I' := I.out.kept (Y := wr.drew) (Below.refl _ _).drew
            refine (release_ok wr.drew b n h (1 + (x : Int)) I'.s I'.k).mono ?_
            rintro e w' ⟨rfl, q1, q2, _⟩
            have eE : turnE n h (1 + (x : Int)) 1 = 9 := by unfold turnE; rw [if_pos hI', show (1 + (x : Int)).toNat - 1 = x by omega, hv]; rfl
            have eH : turnH n h (1 + (x : Int)) 1 2 = h := by unfold turnH; rw [if_pos hI', show (1 + (x : Int)).toNat - 1 = x by omega, hv]; rfl
            rw [eE]
            rw [eH] at q1
            exact ⟨rfl, I'.half q1 (I'.k) q2⟩
          gi_wp2
          refine region_wd (S := fun X => X.cell? ⟨B, x + 1, none⟩ = some (.int .i64 0)) (by kernel_rfl) (by kernel_rfl) cc (fun hHeld => ?_)
          refine take_at (i := 0) (v := ?_) (some 133) rfl rfl (by kernel_rfl) (by kernel_rfl) (by kernel_rfl) (fun _ _ _ h => by cases h.1) (Or.inl ⟨by rfl, ?_⟩) (by assumption) ?_
          rotate_left
          · (intro w hSw; (try dsimp only at hSw); (try obtain _q := hSw); go_simp; try with_reducible rfl)
          simp only [Act.put, List.setIfInBounds_toArray, List.set_cons_zero, List.set_cons_succ]
          refine take_at (i := 1) (v := ?_) (some 134) rfl rfl (by kernel_rfl) (by kernel_rfl) (by kernel_rfl) (fun _ _ _ h => by cases h.1) (Or.inl ⟨by rfl, ?_⟩) (by assumption) ?_
          rotate_left
          · (intro w hSw; (try dsimp only at hSw); (try obtain _q := hSw); go_simp; try with_reducible rfl)
          simp only [Act.put, List.setIfInBounds_toArray, List.set_cons_zero, List.set_cons_succ]
          refine take_at (i := 4) (v := ?_) (some 137) rfl rfl (by kernel_rfl) (by kernel_rfl) (by kernel_rfl) (fun _ _ _ h => by cases h.1) (Or.inl ⟨by rfl, ?_⟩) (by assumption) ?_
          rotate_left
          · (intro w hSw; (try dsimp only at hSw); (try obtain _q := hSw); go_simp; try with_reducible rfl)
          simp only [Act.put, List.setIfInBounds_toArray, List.set_cons_zero, List.set_cons_succ]
          refine take_at (i := 5) (v := ?_) (some 138) rfl rfl (by kernel_rfl) (by kernel_rfl) (by kernel_rfl) (fun _ _ _ h => by cases h.1) (Or.inl ⟨by rfl, ?_⟩) (by assumption) ?_
          rotate_left
          · (intro w hSw; (try dsimp only at hSw); (try obtain _q := hSw); go_simp; try with_reducible rfl)
          simp only [Act.put, List.setIfInBounds_toArray, List.set_cons_zero, List.set_cons_succ]
          refine take_at (i := 6) (v := ?_) (some 139) rfl rfl (by kernel_rfl) (by kernel_rfl) (by kernel_rfl) (fun _ _ _ h => by cases h.1) (Or.inl ⟨by rfl, ?_⟩) (by assumption) ?_
          rotate_left
          · (intro w hSw; (try dsimp only at hSw); (try obtain _q := hSw); go_simp; try with_reducible rfl)
          simp only [Act.put, List.setIfInBounds_toArray, List.set_cons_zero, List.set_cons_succ]
          refine take_at (i := 7) (v := ?_) (some 140) rfl rfl (by kernel_rfl) (by kernel_rfl) (by kernel_rfl) (fun _ _ _ h => by cases h.1) (Or.inl ⟨by rfl, ?_⟩) (by assumption) ?_
          rotate_left
          · (intro w hSw; (try dsimp only at hSw); (try obtain _q := hSw); go_simp; try with_reducible rfl)
          simp only [Act.put, List.setIfInBounds_toArray, List.set_cons_zero, List.set_cons_succ]
          refine take_at (i := 8) (v := ?_) (some 141) rfl rfl (by kernel_rfl) (by kernel_rfl) (by kernel_rfl) (fun _ _ _ h => by cases h.1) (Or.inl ⟨by rfl, ?_⟩) (by assumption) ?_
          rotate_left
          · (intro w hSw; (try dsimp only at hSw); (try obtain _q := hSw); go_simp; try with_reducible rfl)
          simp only [Act.put, List.setIfInBounds_toArray, List.set_cons_zero, List.set_cons_succ]
          refine call_at (i := 2) (some 135) 25 _ _ rfl rfl rfl (by rfl) (by kernel_rfl) #[.pointer (some ⟨b, 0, none⟩), .int .i64 (1 + (x : Int))] rfl Tryd.func25 (by kernel_rfl) (by kernel_rfl) ?_
          refine TK.out.mono ?_
          rintro e W3 ⟨rfl, h3⟩
          have H3 := hidIt h3
          clear h3
          refine ⟨_, rfl, (by have := H3.out.r.1 (x + 1) (by omega); unfold isF at this; rw [if_neg (by omega), Nat.add_sub_cancel, hv] at this; exact this), fun hHeld => ?_⟩
          simp only [Act.put, List.setIfInBounds_toArray, List.set_cons_zero, List.set_cons_succ]
          refine take_at (i := 3) (v := ?_) (some 136) rfl rfl (by kernel_rfl) (by kernel_rfl) (by kernel_rfl) (fun _ _ _ h => by cases h.1) (Or.inl ⟨by rfl, ?_⟩) (by assumption) ?_
          rotate_left
          · (intro w hSw; (try dsimp only at hSw); (try obtain _q := hSw); go_simp; try with_reducible rfl)
          simp only [Act.put, List.setIfInBounds_toArray, List.set_cons_zero, List.set_cons_succ]
          refine take_at (i := 9) (v := ?_) (some 142) rfl rfl (by kernel_rfl) (by kernel_rfl) (by kernel_rfl) (fun _ _ _ h => by cases h.1) (Or.inl ⟨by rfl, ?_⟩) (by assumption) ?_
          rotate_left
          · (intro w hSw; (try dsimp only at hSw); (try obtain _q := hSw); go_simp; try with_reducible rfl)
          simp only [Act.put, List.setIfInBounds_toArray, List.set_cons_zero, List.set_cons_succ]
          refine wpAnyH_done (by kernel_rfl) ?_ _
          refine ⟨rfl, ?_⟩
          have FIN := hidIt (H3.out.whole rfl)
          have ff := H3.out.r.2.1 (x + 1)
          clear cc TK hv
          gi_wp2
          go_roundw
          case rel => exact ⟨k + 1, by omega, by simp, _, FIN.out⟩
          case measure => simp [RowKit.intOf]; omega
        · have cc : wr.cell? ⟨B, x + 1, none⟩ = some (.int .i64 1) := by
            have := I.out.r.1 (x + 1) (by omega)
            unfold isF at this
            rw [if_neg (by omega), Nat.add_sub_cancel, hv] at this
            exact this
          have TK : Hid (Calls Tryd.prog 25 #[.pointer (some ⟨b, 0, none⟩), .int .i64 (1 + (x : Int))] wr.drew fun e w' => e = .returned (.int .i64 0) ∧ OnH W b B n h (setH h x 2) w') := by
            have I' := I.out.kept (Y := wr.drew) (Below.refl _ _).drew
            refine (release_ok wr.drew b n h (1 + (x : Int)) I'.s I'.k).mono ?_
            rintro e w' ⟨rfl, q1, q2, _⟩
            have eE : turnE n h (1 + (x : Int)) 1 = 0 := by unfold turnE; rw [if_pos hI', show (1 + (x : Int)).toNat - 1 = x by omega, hv]; rfl
            have eH : turnH n h (1 + (x : Int)) 1 2 = setH h x 2 := by unfold turnH; rw [if_pos hI', show (1 + (x : Int)).toNat - 1 = x by omega, hv]; rfl
            rw [eE]
            rw [eH] at q1
            exact ⟨rfl, I'.half q1 (I'.k.set x 2 hx) q2⟩
          gi_wp2
          refine region_wd (S := fun X => X.cell? ⟨B, x + 1, none⟩ = some (.int .i64 1)) (by kernel_rfl) (by kernel_rfl) cc (fun hHeld => ?_)
          refine take_at (i := 0) (v := ?_) (some 133) rfl rfl (by kernel_rfl) (by kernel_rfl) (by kernel_rfl) (fun _ _ _ h => by cases h.1) (Or.inl ⟨by rfl, ?_⟩) (by assumption) ?_
          rotate_left
          · (intro w hSw; (try dsimp only at hSw); (try obtain _q := hSw); go_simp; try with_reducible rfl)
          simp only [Act.put, List.setIfInBounds_toArray, List.set_cons_zero, List.set_cons_succ]
          refine take_at (i := 1) (v := ?_) (some 134) rfl rfl (by kernel_rfl) (by kernel_rfl) (by kernel_rfl) (fun _ _ _ h => by cases h.1) (Or.inl ⟨by rfl, ?_⟩) (by assumption) ?_
          rotate_left
          · (intro w hSw; (try dsimp only at hSw); (try obtain _q := hSw); go_simp; try with_reducible rfl)
          simp only [Act.put, List.setIfInBounds_toArray, List.set_cons_zero, List.set_cons_succ]
          refine take_at (i := 4) (v := ?_) (some 137) rfl rfl (by kernel_rfl) (by kernel_rfl) (by kernel_rfl) (fun _ _ _ h => by cases h.1) (Or.inl ⟨by rfl, ?_⟩) (by assumption) ?_
          rotate_left
          · (intro w hSw; (try dsimp only at hSw); (try obtain _q := hSw); go_simp; try with_reducible rfl)
          simp only [Act.put, List.setIfInBounds_toArray, List.set_cons_zero, List.set_cons_succ]
          refine take_at (i := 5) (v := ?_) (some 138) rfl rfl (by kernel_rfl) (by kernel_rfl) (by kernel_rfl) (fun _ _ _ h => by cases h.1) (Or.inl ⟨by rfl, ?_⟩) (by assumption) ?_
          rotate_left
          · (intro w hSw; (try dsimp only at hSw); (try obtain _q := hSw); go_simp; try with_reducible rfl)
          simp only [Act.put, List.setIfInBounds_toArray, List.set_cons_zero, List.set_cons_succ]
          refine take_at (i := 6) (v := ?_) (some 139) rfl rfl (by kernel_rfl) (by kernel_rfl) (by kernel_rfl) (fun _ _ _ h => by cases h.1) (Or.inl ⟨by rfl, ?_⟩) (by assumption) ?_
          rotate_left
          · (intro w hSw; (try dsimp only at hSw); (try obtain _q := hSw); go_simp; try with_reducible rfl)
          simp only [Act.put, List.setIfInBounds_toArray, List.set_cons_zero, List.set_cons_succ]
          refine take_at (i := 7) (v := ?_) (some 140) rfl rfl (by kernel_rfl) (by kernel_rfl) (by kernel_rfl) (fun _ _ _ h => by cases h.1) (Or.inl ⟨by rfl, ?_⟩) (by assumption) ?_
          rotate_left
          · (intro w hSw; (try dsimp only at hSw); (try obtain _q := hSw); go_simp; try with_reducible rfl)
          simp only [Act.put, List.setIfInBounds_toArray, List.set_cons_zero, List.set_cons_succ]
          refine take_at (i := 8) (v := ?_) (some 141) rfl rfl (by kernel_rfl) (by kernel_rfl) (by kernel_rfl) (fun _ _ _ h => by cases h.1) (Or.inl ⟨by rfl, ?_⟩) (by assumption) ?_
          rotate_left
          · (intro w hSw; (try dsimp only at hSw); (try obtain _q := hSw); go_simp; try with_reducible rfl)
          simp only [Act.put, List.setIfInBounds_toArray, List.set_cons_zero, List.set_cons_succ]
          refine call_at (i := 2) (some 135) 25 _ _ rfl rfl rfl (by rfl) (by kernel_rfl) #[.pointer (some ⟨b, 0, none⟩), .int .i64 (1 + (x : Int))] rfl Tryd.func25 (by kernel_rfl) (by kernel_rfl) ?_
          refine TK.out.mono ?_
          rintro e W3 ⟨rfl, h3⟩
          have H3 := hidIt h3
          clear h3
          refine ⟨_, rfl, (by have := H3.out.r.1 (x + 1) (by omega); unfold isF at this; rw [if_neg (by omega), Nat.add_sub_cancel, hv] at this; exact this), fun hHeld => ?_⟩
          simp only [Act.put, List.setIfInBounds_toArray, List.set_cons_zero, List.set_cons_succ]
          refine take_at (i := 3) (v := ?_) (some 136) rfl rfl (by kernel_rfl) (by kernel_rfl) (by kernel_rfl) (fun _ _ _ h => by cases h.1) (Or.inl ⟨by rfl, ?_⟩) (by assumption) ?_
          rotate_left
          · (intro w hSw; (try dsimp only at hSw); (try obtain _q := hSw); go_simp; try with_reducible rfl)
          simp only [Act.put, List.setIfInBounds_toArray, List.set_cons_zero, List.set_cons_succ]
          refine take_at (i := 9) (v := ?_) (some 142) rfl rfl (by kernel_rfl) (by kernel_rfl) (by kernel_rfl) (fun _ _ _ h => by cases h.1) (Or.inl ⟨by rfl, ?_⟩) (by assumption) ?_
          rotate_left
          · (intro w hSw; (try dsimp only at hSw); (try obtain _q := hSw); go_simp; try with_reducible rfl)
          simp only [Act.put, List.setIfInBounds_toArray, List.set_cons_zero, List.set_cons_succ]
          refine wpAnyH_done (by kernel_rfl) ?_ _
          refine ⟨rfl, ?_⟩
          have FIN := hidIt ((H3.out.put (x + 1) 2 (isF_set h x 2 (by decide))).whole rfl)
          have ff := H3.out.r.2.1 (x + 1)
          clear cc TK hv
          gi_wp2
          go_roundw
          case rel => exact ⟨k + 1, by omega, by simp, _, FIN.out⟩
          case measure => simp [RowKit.intOf]; omega
        · have cc : wr.cell? ⟨B, x + 1, none⟩ = some (.int .i64 2) := by
            have := I.out.r.1 (x + 1) (by omega)
            unfold isF at this
            rw [if_neg (by omega), Nat.add_sub_cancel, hv] at this
            exact this
          have TK : Hid (Calls Tryd.prog 25 #[.pointer (some ⟨b, 0, none⟩), .int .i64 (1 + (x : Int))] wr.drew fun e w' => e = .returned (.int .i64 9) ∧ OnH W b B n h h w') := by
            have I' := I.out.kept (Y := wr.drew) (Below.refl _ _).drew
            refine (release_ok wr.drew b n h (1 + (x : Int)) I'.s I'.k).mono ?_
            rintro e w' ⟨rfl, q1, q2, _⟩
            have eE : turnE n h (1 + (x : Int)) 1 = 9 := by unfold turnE; rw [if_pos hI', show (1 + (x : Int)).toNat - 1 = x by omega, hv]; rfl
            have eH : turnH n h (1 + (x : Int)) 1 2 = h := by unfold turnH; rw [if_pos hI', show (1 + (x : Int)).toNat - 1 = x by omega, hv]; rfl
            rw [eE]
            rw [eH] at q1
            exact ⟨rfl, I'.half q1 (I'.k) q2⟩
          gi_wp2
          refine region_wd (S := fun X => X.cell? ⟨B, x + 1, none⟩ = some (.int .i64 2)) (by kernel_rfl) (by kernel_rfl) cc (fun hHeld => ?_)
          refine take_at (i := 0) (v := ?_) (some 133) rfl rfl (by kernel_rfl) (by kernel_rfl) (by kernel_rfl) (fun _ _ _ h => by cases h.1) (Or.inl ⟨by rfl, ?_⟩) (by assumption) ?_
          rotate_left
          · (intro w hSw; (try dsimp only at hSw); (try obtain _q := hSw); go_simp; try with_reducible rfl)
          simp only [Act.put, List.setIfInBounds_toArray, List.set_cons_zero, List.set_cons_succ]
          refine take_at (i := 1) (v := ?_) (some 134) rfl rfl (by kernel_rfl) (by kernel_rfl) (by kernel_rfl) (fun _ _ _ h => by cases h.1) (Or.inl ⟨by rfl, ?_⟩) (by assumption) ?_
          rotate_left
          · (intro w hSw; (try dsimp only at hSw); (try obtain _q := hSw); go_simp; try with_reducible rfl)
          simp only [Act.put, List.setIfInBounds_toArray, List.set_cons_zero, List.set_cons_succ]
          refine take_at (i := 4) (v := ?_) (some 137) rfl rfl (by kernel_rfl) (by kernel_rfl) (by kernel_rfl) (fun _ _ _ h => by cases h.1) (Or.inl ⟨by rfl, ?_⟩) (by assumption) ?_
          rotate_left
          · (intro w hSw; (try dsimp only at hSw); (try obtain _q := hSw); go_simp; try with_reducible rfl)
          simp only [Act.put, List.setIfInBounds_toArray, List.set_cons_zero, List.set_cons_succ]
          refine take_at (i := 5) (v := ?_) (some 138) rfl rfl (by kernel_rfl) (by kernel_rfl) (by kernel_rfl) (fun _ _ _ h => by cases h.1) (Or.inl ⟨by rfl, ?_⟩) (by assumption) ?_
          rotate_left
          · (intro w hSw; (try dsimp only at hSw); (try obtain _q := hSw); go_simp; try with_reducible rfl)
          simp only [Act.put, List.setIfInBounds_toArray, List.set_cons_zero, List.set_cons_succ]
          refine take_at (i := 6) (v := ?_) (some 139) rfl rfl (by kernel_rfl) (by kernel_rfl) (by kernel_rfl) (fun _ _ _ h => by cases h.1) (Or.inl ⟨by rfl, ?_⟩) (by assumption) ?_
          rotate_left
          · (intro w hSw; (try dsimp only at hSw); (try obtain _q := hSw); go_simp; try with_reducible rfl)
          simp only [Act.put, List.setIfInBounds_toArray, List.set_cons_zero, List.set_cons_succ]
          refine take_at (i := 7) (v := ?_) (some 140) rfl rfl (by kernel_rfl) (by kernel_rfl) (by kernel_rfl) (fun _ _ _ h => by cases h.1) (Or.inl ⟨by rfl, ?_⟩) (by assumption) ?_
          rotate_left
          · (intro w hSw; (try dsimp only at hSw); (try obtain _q := hSw); go_simp; try with_reducible rfl)
          simp only [Act.put, List.setIfInBounds_toArray, List.set_cons_zero, List.set_cons_succ]
          refine take_at (i := 8) (v := ?_) (some 141) rfl rfl (by kernel_rfl) (by kernel_rfl) (by kernel_rfl) (fun _ _ _ h => by cases h.1) (Or.inl ⟨by rfl, ?_⟩) (by assumption) ?_
          rotate_left
          · (intro w hSw; (try dsimp only at hSw); (try obtain _q := hSw); go_simp; try with_reducible rfl)
          simp only [Act.put, List.setIfInBounds_toArray, List.set_cons_zero, List.set_cons_succ]
          refine call_at (i := 2) (some 135) 25 _ _ rfl rfl rfl (by rfl) (by kernel_rfl) #[.pointer (some ⟨b, 0, none⟩), .int .i64 (1 + (x : Int))] rfl Tryd.func25 (by kernel_rfl) (by kernel_rfl) ?_
          refine TK.out.mono ?_
          rintro e W3 ⟨rfl, h3⟩
          have H3 := hidIt h3
          clear h3
          refine ⟨_, rfl, (by have := H3.out.r.1 (x + 1) (by omega); unfold isF at this; rw [if_neg (by omega), Nat.add_sub_cancel, hv] at this; exact this), fun hHeld => ?_⟩
          simp only [Act.put, List.setIfInBounds_toArray, List.set_cons_zero, List.set_cons_succ]
          refine take_at (i := 3) (v := ?_) (some 136) rfl rfl (by kernel_rfl) (by kernel_rfl) (by kernel_rfl) (fun _ _ _ h => by cases h.1) (Or.inl ⟨by rfl, ?_⟩) (by assumption) ?_
          rotate_left
          · (intro w hSw; (try dsimp only at hSw); (try obtain _q := hSw); go_simp; try with_reducible rfl)
          simp only [Act.put, List.setIfInBounds_toArray, List.set_cons_zero, List.set_cons_succ]
          refine take_at (i := 9) (v := ?_) (some 142) rfl rfl (by kernel_rfl) (by kernel_rfl) (by kernel_rfl) (fun _ _ _ h => by cases h.1) (Or.inl ⟨by rfl, ?_⟩) (by assumption) ?_
          rotate_left
          · (intro w hSw; (try dsimp only at hSw); (try obtain _q := hSw); go_simp; try with_reducible rfl)
          simp only [Act.put, List.setIfInBounds_toArray, List.set_cons_zero, List.set_cons_succ]
          refine wpAnyH_done (by kernel_rfl) ?_ _
          refine ⟨rfl, ?_⟩
          have FIN := hidIt (H3.out.whole rfl)
          have ff := H3.out.r.2.1 (x + 1)
          clear cc TK hv
          gi_wp2
          go_roundw
          case rel => exact ⟨k + 1, by omega, by simp, _, FIN.out⟩
          case measure => simp [RowKit.intOf]; omega
      · gi_wp2
        refine ⟨trivial, ?_⟩
        refine CallsIn.mono ((callsIn_wide (n := _)).2 (settle_ok wr b n h I.out.s I.out.k)) ?_
        rintro e W3 ⟨rfl, s3, b3⟩
        have H3 := hidIt (I.out.half s3 I.out.k.setl b3)
        clear s3 b3
        gi_wp2
        gi_loopw [15] (fun kk wr' => ∃ j : Nat, j ≤ n ∧ kk = .int .i64 ((j : Int) + 1) ∧ OnH W b B n (mixH h j) (setl h) wr') (fun kk _ => n + 1 - (RowKit.intOf kk).toNat)
        case atStart => exact ⟨0, Nat.zero_le _, rfl, by rw [mixH_zero]; exact H3.out⟩
        case round =>
          obtain ⟨j, hj, rfl, hM⟩ := hrel
          have M := hidIt hM
          clear hM H3
          by_cases hj1 : j < n
          · have cc : wr.cell? ⟨B, j + 1, none⟩ = some (.int .i64 ((h j : Nat) : Int)) := by
              have := M.out.r.1 (j + 1) (by omega)
              unfold isF mixH at this
              rw [if_neg (by omega), Nat.add_sub_cancel, if_neg (by omega)] at this
              exact this
            have ff := M.out.r.2.1 (j + 1)
            have hle := I.out.k.le j
            have FIN := hidIt (M.out.put (g := mixH h (j + 1)) (j + 1) (((h j : Nat) : Int) % 2) (mixH_step h j hle))
            have j1 : (j : Int) + 1 ≤ (n : Int) := by omega
            have j2 : (j : Int) + 1 < ((n + 1 : Nat) : Int) := by omega
            have j3 : (0 : Int) ≤ (j : Int) + 1 := by omega
            have j4 : ((j : Int) + 1).toNat = j + 1 := by omega
            have j5 : IntKind.i64.wrap ((j : Int) + 1 + 1) = (j : Int) + 1 + 1 := by rw [IntKind.wrap_i64]; omega
            have j6 : wrap64 ((j : Int) + 1 + 1) = (j : Int) + 1 + 1 := by unfold wrap64; omega
            have j8 : Hid (j + 1 ≤ n) := hj1
            clear M hle
            gi_wp2
            go_roundw
            case rel => exact ⟨j + 1, j8.out, by simp, FIN.out⟩
            case measure => exact meas_up n j j8.out
          · obtain rfl : j = n := by omega
            have j1 : ¬ (j : Int) + 1 ≤ (j : Int) := by omega
            have FIN := hidIt (M.out.whole (mixH_all I.out.k))
            clear M
            gi_wp2
            go_roundw
            case rel => exact ⟨k + 1, by omega, by simp, _, FIN.out⟩
            case measure => simp [RowKit.intOf]; omega
    · obtain rfl : k = m := by omega
      have i0 : ¬ (k : Int) < (k : Int) := by omega
      gi_wp2
      gi_loopw [16] (fun kk wr' => ∃ j : Nat, j ≤ n ∧ kk = .int .i64 ((j : Int) + 1) ∧ OnI W b B n h wr') (fun kk _ => n + 1 - (RowKit.intOf kk).toNat)
      case atStart => exact ⟨0, Nat.zero_le _, rfl, I.out⟩
      case round =>
        obtain ⟨j, hj, rfl, hM⟩ := hrel
        have M := hidIt hM
        clear hM I
        by_cases hj1 : j < n
        · have cc : wr.cell? ⟨B, j + 1, none⟩ = some (.int .i64 ((h j : Nat) : Int)) := by
            have := M.out.r.1 (j + 1) (by omega)
            unfold isF at this
            rw [if_neg (by omega), Nat.add_sub_cancel] at this
            exact this
          have j1 : (j : Int) + 1 ≤ (n : Int) := by omega
          have j2 : (j : Int) + 1 < ((n + 1 : Nat) : Int) := by omega
          have j3 : (0 : Int) ≤ (j : Int) + 1 := by omega
          have j4 : ((j : Int) + 1).toNat = j + 1 := by omega
          have j7 : (j : Int) + 1 < (n : Int) + 1 := by omega
          have j5 : IntKind.i64.wrap ((j : Int) + 1 + 1) = (j : Int) + 1 + 1 := by rw [IntKind.wrap_i64]; omega
          have j6 : wrap64 ((j : Int) + 1 + 1) = (j : Int) + 1 + 1 := by unfold wrap64; omega
          have IS : Hid (Calls Tryd.prog 27 #[.pointer (some ⟨b, 0, none⟩), .int .i64 ((j : Int) + 1)] wr.drew fun e w' => e = .returned (.int .i64 ((h j : Nat) : Int)) ∧ OnI W b B n h w') := by
            have I' := M.out.kept (Y := wr.drew) (Below.refl _ _).drew
            refine (is_ok wr.drew b n h ((j : Int) + 1) I'.s I'.k).mono ?_
            rintro e w' ⟨rfl, q1⟩
            have eE : isI n h ((j : Int) + 1) = ((h j : Nat) : Int) := by unfold isI; rw [if_pos (by rw [hasI_iff]; omega), show ((j : Int) + 1).toNat - 1 = j by omega]
            rw [eE]
            exact ⟨rfl, I'.kept q1.1⟩
          gi_wp2
          refine region_wd (S := fun X => X.cell? ⟨B, j + 1, none⟩ = some (.int .i64 ((h j : Nat) : Int))) (by kernel_rfl) (by kernel_rfl) cc (fun hHeld => ?_)
          refine take_at (i := 0) (v := ?_) (some 173) rfl rfl (by kernel_rfl) (by kernel_rfl) (by kernel_rfl) (fun _ _ _ h => by cases h.1) (Or.inl ⟨by rfl, ?_⟩) (by assumption) ?_
          rotate_left
          · (intro w hSw; (try dsimp only at hSw); (try obtain _q := hSw); go_simp; try with_reducible rfl)
          simp only [Act.put, List.setIfInBounds_toArray, List.set_cons_zero, List.set_cons_succ]
          refine take_at (i := 1) (v := ?_) (some 174) rfl rfl (by kernel_rfl) (by kernel_rfl) (by kernel_rfl) (fun _ _ _ h => by cases h.1) (Or.inl ⟨by rfl, ?_⟩) (by assumption) ?_
          rotate_left
          · (intro w hSw; (try dsimp only at hSw); (try obtain _q := hSw); go_simp; try with_reducible rfl)
          simp only [Act.put, List.setIfInBounds_toArray, List.set_cons_zero, List.set_cons_succ]
          refine take_at (i := 3) (v := ?_) (some 176) rfl rfl (by kernel_rfl) (by kernel_rfl) (by kernel_rfl) (fun _ _ _ h => by cases h.1) (Or.inl ⟨by rfl, ?_⟩) (by assumption) ?_
          rotate_left
          · (intro w hSw; (try dsimp only at hSw); (try obtain _q := hSw); go_simp; try with_reducible rfl)
          simp only [Act.put, List.setIfInBounds_toArray, List.set_cons_zero, List.set_cons_succ]
          refine take_at (i := 4) (v := ?_) (some 177) rfl rfl (by kernel_rfl) (by kernel_rfl) (by kernel_rfl) (fun _ _ _ h => by cases h.1) (Or.inl ⟨by rfl, ?_⟩) (by assumption) ?_
          rotate_left
          · (intro w hSw; (try dsimp only at hSw); (try obtain _q := hSw); go_simp; try with_reducible rfl)
          simp only [Act.put, List.setIfInBounds_toArray, List.set_cons_zero, List.set_cons_succ]
          refine take_at (i := 5) (v := ?_) (some 178) rfl rfl (by kernel_rfl) (by kernel_rfl) (by kernel_rfl) (fun _ _ _ h => by cases h.1) (Or.inl ⟨by rfl, ?_⟩) (by assumption) ?_
          rotate_left
          · (intro w hSw; (try dsimp only at hSw); (try obtain _q := hSw); go_simp; try with_reducible rfl)
          simp only [Act.put, List.setIfInBounds_toArray, List.set_cons_zero, List.set_cons_succ]
          refine take_at (i := 6) (v := ?_) (some 179) rfl rfl (by kernel_rfl) (by kernel_rfl) (by kernel_rfl) (fun _ _ _ h => by cases h.1) (Or.inl ⟨by rfl, ?_⟩) (by assumption) ?_
          rotate_left
          · (intro w hSw; (try dsimp only at hSw); (try obtain _q := hSw); go_simp; try with_reducible rfl)
          simp only [Act.put, List.setIfInBounds_toArray, List.set_cons_zero, List.set_cons_succ]
          refine call_at (i := 2) (some 175) 27 _ _ rfl rfl rfl (by rfl) (by kernel_rfl) #[.pointer (some ⟨b, 0, none⟩), .int .i64 ((j : Int) + 1)] rfl Tryd.func27 (by kernel_rfl) (by kernel_rfl) ?_
          refine IS.out.mono ?_
          rintro e W3 ⟨rfl, h3⟩
          have H3 := hidIt h3
          clear h3
          refine ⟨_, rfl, (by have := H3.out.r.1 (j + 1) (by omega); unfold isF at this; rw [if_neg (by omega), Nat.add_sub_cancel] at this; exact this), fun hHeld => ?_⟩
          simp only [Act.put, List.setIfInBounds_toArray, List.set_cons_zero, List.set_cons_succ]
          refine take_at (i := 7) (v := ?_) (some 180) rfl rfl (by kernel_rfl) (by kernel_rfl) (by kernel_rfl) (fun _ _ _ h => by cases h.1) (Or.inl ⟨by rfl, ?_⟩) (by assumption) ?_
          rotate_left
          · (intro w hSw; (try dsimp only at hSw); (try obtain _q := hSw); go_simp; try with_reducible rfl)
          simp only [Act.put, List.setIfInBounds_toArray, List.set_cons_zero, List.set_cons_succ]
          refine wpAnyH_done (by kernel_rfl) ?_ _
          refine ⟨rfl, ?_⟩
          clear cc IS M
          gi_wp2
          go_roundw
          case rel => exact ⟨j + 1, by omega, by simp, H3.out⟩
          case measure => simp [RowKit.intOf]; omega
        · obtain rfl : j = n := by omega
          have j1 : ¬ (j : Int) + 1 ≤ (j : Int) := by omega
          gi_wp2
          refine ⟨trivial, ?_⟩
          refine CallsIn.mono ((callsIn_wide (n := _)).2 (counts_ok wr b j h M.out.s M.out.k)) ?_
          rintro e W3 ⟨rfl, b3⟩
          have FIN := hidIt (M.out.kept b3).w
          have hc := cnt_all M.out.k j
          have l0 := cnt_le h 0 j
          have l1 := cnt_le h 1 j
          have l2 := cnt_le h 2 j
          have j2 : IntKind.i64.wrap (((cnt h 0 j : Nat) : Int) + ((cnt h 1 j : Nat) : Int)) = ((cnt h 0 j : Nat) : Int) + ((cnt h 1 j : Nat) : Int) := by rw [IntKind.wrap_i64]; omega
          have j3 : wrap64 (((cnt h 0 j : Nat) : Int) + ((cnt h 1 j : Nat) : Int)) = ((cnt h 0 j : Nat) : Int) + ((cnt h 1 j : Nat) : Int) := by unfold wrap64; omega
          have j4 : IntKind.i64.wrap (((cnt h 0 j : Nat) : Int) + ((cnt h 1 j : Nat) : Int) + ((cnt h 2 j : Nat) : Int)) = (j : Int) := by rw [IntKind.wrap_i64]; omega
          have j5 : wrap64 (((cnt h 0 j : Nat) : Int) + ((cnt h 1 j : Nat) : Int) + ((cnt h 2 j : Nat) : Int)) = (j : Int) := by unfold wrap64; omega
          clear b3 hc l0 l1 l2 M
          generalize ((cnt h 0 j : Nat) : Int) = x0 at *
          generalize ((cnt h 1 j : Nat) : Int) = x1 at *
          generalize ((cnt h 2 j : Nat) : Int) = x2 at *
          gi_wp2
          go_ret
          exact ⟨by simp, FIN.out⟩
end Go.Proofs.YtkncnpjhfcfmnaaDoor
