/-
  Walks, not a claim by itself: DiskFuse. By the verifier.
-/
import Derived.Test.YtoehbljnapdbgaaEMany2
import Derived.Test.YtoehbljnapdbgaaEKnown2
namespace Go.Proofs.Ytoehbljnapdbgaa
open Go.RowKit Go.Maps
/-- A list of numbers that came in. -/
def NArg (W : World) (a : Option Addr) (n : Nat) (f : Nat → Int) : Prop := ∀ i, i < n → ∃ b off, a = some ⟨b, off, none⟩ ∧ W.cell? ⟨b, off + i, none⟩ = some (.int .i64 (f i)) ∧ b < W.heap.size
theorem NArg.below {W W' : World} {a : Option Addr} {n : Nat} {f : Nat → Int} (h : NArg W a n f) (hB : Below W.heap.size W W') : NArg W' a n f := fun i hi => by
  obtain ⟨b, off, e, c, l⟩ := h i hi
  exact ⟨b, off, e, (hB.cell (p := ⟨b, off + i, none⟩) l).trans c, Nat.lt_of_lt_of_le l hB.size⟩
theorem fuse_far (k x : Int) (a : Option Addr) (n C : Nat) (w : World) (h : k < 1 ∨ 5 < k ∨ x < 0 ∨ 60 < n) : Calls Try.prog 7 #[.int .i64 k, .int .i64 x, .slice a n C] w fun e w' => e = .returned (.bool true) ∧ Below w.heap.size w w' := by
  have KN : Hid (Calls Try.prog 5 #[] w fun e w' => e = .returned (.bool true) ∧ Below w.heap.size w w') := known_any w
  by_cases h1 : k < 1
  · go_enter Try.func7, Try.ntmps7
    go_wp2_with (go_at_call 5; refine KN.out.mono ?_; rintro e w1 ⟨rfl, b1⟩; have B1 : Hid (Below w.heap.size w w1) := b1; clear b1 KN)
    go_ret
    exact ⟨rfl, B1.out⟩
  · by_cases h2 : 5 < k
    · go_enter Try.func7, Try.ntmps7
      go_wp2_with (go_at_call 5; refine KN.out.mono ?_; rintro e w1 ⟨rfl, b1⟩; have B1 : Hid (Below w.heap.size w w1) := b1; clear b1 KN)
      go_ret
      exact ⟨rfl, B1.out⟩
    · by_cases h3 : x < 0
      · go_enter Try.func7, Try.ntmps7
        go_wp2_with (go_at_call 5; refine KN.out.mono ?_; rintro e w1 ⟨rfl, b1⟩; have B1 : Hid (Below w.heap.size w w1) := b1; clear b1 KN)
        go_ret
        exact ⟨rfl, B1.out⟩
      · have h4 : (60 : Int) < n := by omega
        go_enter Try.func7, Try.ntmps7
        go_wp2_with (go_at_call 5; refine KN.out.mono ?_; rintro e w1 ⟨rfl, b1⟩; have B1 : Hid (Below w.heap.size w w1) := b1; clear b1 KN)
        go_ret
        exact ⟨rfl, B1.out⟩
/-- The heads of the three loops. -/
def mkRel (w : World) (k : Nat) (v i : Value) (wr : World) : Prop := ∃ j : Nat, j ≤ k ∧ i = .int .i64 j ∧ ∃ ds ss ms Ds, Row w wr v j ds ss ms Ds ∧ ∀ i, i < j → Ds i = dsk0 2
def fuRel (w : World) (b k q n : Nat) (ds ss ms : Nat → Nat) (x : Int) (i : Value) (wr : World) : Prop := ∃ j : Nat, j ≤ n ∧ i = .int .i64 j ∧ ∃ Ds, Many w wr b k ds ss ms q Ds (lOf x j) (uOf x j) (cOf x j)
def suRel (w : World) (k : Nat) (Ds : Nat → Dsk) (c i : Value) (wr : World) : Prop := ∃ j : Nat, j ≤ k ∧ i = .int .i64 j ∧ c = .int .i64 (psum Ds j) ∧ w = wr
theorem many_up {w W : World} {b k q p : Nat} {ds ss ms : Nat → Nat} {Ds : Nat → Dsk} {l c : Int} {u : Bool} (h : Many w W b k ds ss ms q Ds l u c) (hp : p < k) : Calls Try.prog 20 #[.pointer (some ⟨ds p, 0, none⟩)] W fun e w' => e = .returned (.bool (!u)) ∧ w' = W := by
  have := up_ok W (ds p) (ss p) (ms p) (Ds p) l u (h.made.at' p hp) (by rw [(h.of p hp).1]; exact h.fz)
  unfold Dsk.up at this
  rw [(h.of p hp).2.1] at this
  exact this
theorem less_of {n k : Nat} (hlt : k < n) : n - (RowKit.intOf (.int .i64 ((k : Int) + 1))).toNat < n - (RowKit.intOf (.int .i64 (k : Int))).toNat := by simp [RowKit.intOf]; omega
theorem mk_next {w W' : World} {k j d s m : Nat} {v' : Value} {ds ss ms : Nat → Nat} {Ds : Nat → Dsk} (hj : j < k) (h : Row w W' v' (j + 1) (putN ds j d) (putN ss j s) (putN ms j m) (putN Ds j (dsk0 2))) (hD : ∀ i, i < j → Ds i = dsk0 2) : mkRel w k v' (.int .i64 ((j : Int) + 1)) W' :=
  ⟨j + 1, by omega, by go_num, _, _, _, _, h, fun i hi => by
    by_cases e : i = j
    · subst e; exact putN_same _ _ _
    · rw [putN_other _ _ _ _ e]; exact hD i (by omega)⟩
theorem fu_next {w W' : World} {b k q n j : Nat} {ds ss ms : Nat → Nat} {x : Int} (hj : j < n) (h : ∃ Ds, Many w W' b k ds ss ms q Ds (lOf x (j + 1)) (uOf x (j + 1)) (cOf x (j + 1))) : fuRel w b k q n ds ss ms x (.int .i64 ((j : Int) + 1)) W' := ⟨j + 1, by omega, by go_num, h⟩
theorem su_next {w : World} {k j : Nat} {Ds : Nat → Dsk} (hj : j < k) : suRel w k Ds (.int .i64 (psum Ds j + (Ds j).ops)) (.int .i64 ((j : Int) + 1)) w := ⟨j + 1, by omega, by go_num, rfl, rfl⟩
theorem su_wrap {k j : Nat} {Ds : Nat → Dsk} (hj : j < k) (h : ∀ i, i < k → 0 ≤ (Ds i).ops) (hc : psum Ds k ≤ 1000) : wrap64 (psum Ds j + (Ds j).ops) = psum Ds j + (Ds j).ops ∧ IntKind.i64.wrap (psum Ds j + (Ds j).ops) = psum Ds j + (Ds j).ops := by
  have h1 := psum_nonneg Ds j (fun i hi => h i (by omega))
  have h2 := psum_mono Ds k h (k - (j + 1)) (j + 1) (by omega)
  have h3 : psum Ds (j + 1) = psum Ds j + (Ds j).ops := rfl
  have h4 := h j hj
  exact ⟨by unfold wrap64; omega, by rw [IntKind.wrap_i64]; omega⟩
set_option maxRecDepth 100000 in
set_option maxHeartbeats 2000000 in
theorem fuse_near (k : Nat) (x : Int) (a : Option Addr) (n C : Nat) (f : Nat → Int) (w : World) (hk1 : 1 ≤ k) (hk : k ≤ 5) (hx : 0 ≤ x) (hx2 : x < 9223372036854775808) (hn : n ≤ 60) (hA : NArg w a n f) : Calls Try.prog 7 #[.int .i64 (k : Int), .int .i64 x, .slice a n C] w fun e w' => e = .returned (.bool true) ∧ Below w.heap.size w w' := by
  have KN : Hid (Calls Try.prog 5 #[] w fun e w' => e = .returned (.bool true) ∧ Below w.heap.size w w') := known_any w
  have NEW : Hid (∀ w, Calls Try.prog 26 #[.int .i64 2] w (NewPost w 2)) := fun w => new_ok 2 w (by omega) (by omega)
  have HA : Hid (NArg w a n f) := hA
  have k1 : ¬ (k : Int) < 1 := by omega
  have k5 : ¬ (5 : Int) < k := by omega
  have x0 : ¬ x < 0 := by omega
  have n0 : ¬ (60 : Int) < n := by omega
  clear hA
  go_enter Try.func7, Try.ntmps7
  go_wp2_with (go_at_call 5; refine KN.out.mono ?_; rintro e w1 ⟨rfl, b1⟩; have B1 : Hid (Below w.heap.size w w1) := b1; clear b1 KN)
  have ST : Hid (mkRel w1 k (.slice none 0 0) (.int .i64 0) w1) := ⟨0, by omega, rfl, fun _ => 0, fun _ => 0, fun _ => 0, fun _ => dsk0 2, ⟨⟨fun i hi => by omega, fun i j hi => by omega, fun i hi => by omega, Below.refl _ _⟩, World.ownsRow_nil _ _ _ _, (fun g hg => by cases hg), fun _ => rfl⟩, fun i hi => by omega⟩
  go_loopw [8, 9] (fun v i wr => mkRel w1 k v i wr) (fun _ i _ => k - (RowKit.intOf i).toNat)
  case atStart => exact ST.out
  case round =>
    obtain ⟨j, hj, rfl, ds, ss, ms, Ds, hR, hD⟩ := hrel
    clear ST
    have HR : Hid (Row w1 wr u8 j ds ss ms Ds) := hR
    have HD : Hid (∀ i, i < j → Ds i = dsk0 2) := hD
    clear hR hD
    by_cases hlt : j < k
    · have i0 : (j : Int) < k := by omega
      go_wp2_with fail
      refine (NEW.out _).mono ?_
      rintro e w2 ⟨d, s, m, rfl, h1, h2, h3, h4, h5⟩
      obtain ⟨v', w3, hr, hR3⟩ := HR.out.add h5 h4 h1 h2 h3 (by omega)
      have RR : Hid (mkRel w1 k v' (.int .i64 ((j : Int) + 1)) w3) := mk_next hlt hR3 HD.out
      clear h1 h2 h3 h4 h5 hR3 HR HD
      go_wp2_with (at_builtin; refine wpList_append_go rfl _ _ 39 39 rfl _ _ rfl rfl hr ?_)
      go_roundw
      case rel => exact RR.out
      case measure => exact less_of hlt
    · have i0 : ¬ (j : Int) < k := by omega
      obtain rfl : j = k := by omega
      obtain ⟨g, cap, rfl, hg, hL, _⟩ := PList.form HR.out.lst (by omega)
      have FU : Hid (Calls Try.prog 22 #[.slice (some ⟨g, 0, none⟩) j cap, .int .i64 x] wr (FuMany w1 g j ds ss ms x)) := many_fuse w1 wr g j cap ds ss ms Ds x HR.out.made HD.out hL (HR.out.off g rfl) (by omega) hx hx2
      clear HR HD hL hg
      go_wp2_with fail
      refine FU.out.mono ?_
      rintro e w2 ⟨rfl, q, Ds2, hM⟩
      have ST : Hid (fuRel w1 g j q n ds ss ms x (.int .i64 0) w2) := ⟨0, by omega, rfl, Ds2, by
        have e1 : lOf x 0 = x := by unfold lOf; rw [if_pos (by omega)]; omega
        have e2 : uOf x 0 = false := decide_eq_false (by omega)
        have e3 : cOf x 0 = 0 := by unfold cOf; rw [if_pos (by omega)]; rfl
        rw [e1, e2, e3]
        exact hM⟩
      clear hM FU
      go_wp2_with fail
      go_loopw [12] (fun i wr => fuRel w1 g j q n ds ss ms x i wr) (fun i _ => n - (RowKit.intOf i).toNat)
      case atStart => exact ST.out
      case round =>
        obtain ⟨i, hi, rfl, Ds3, hM3⟩ := hrel
        clear ST
        have HM : Hid (Many w1 wr g j ds ss ms q Ds3 (lOf x i) (uOf x i) (cOf x i)) := hM3
        by_cases hlt : i < n
        · obtain ⟨ob, off, rfl, c0, lo⟩ := (HA.out.below (B1.out.trans (hM3.made.bel.mono B1.out.size))) i hlt
          obtain ⟨r, hrv⟩ : ∃ r, pickV (f i) j = r := ⟨_, rfl⟩
          have hr : r < j := by rw [← hrv]; exact pickV_lt _ _ (by omega)
          have PK : Hid (∀ w, Calls Try.prog 27 #[.int .i64 (f i), .int .i64 (j : Int)] w fun e w' => e = .returned (.int .i64 (r : Int)) ∧ w' = w) := fun w => by have := pick_is (f i) j w (by omega) (by omega); rwa [hrv] at this
          have c1 : wr.cell? ⟨g, r, none⟩ = some (.pointer (some ⟨ds r, 0, none⟩)) := hM3.lst.1 r hr
          have gl := hM3.lst.2
          have E5 : Hid (wr.heap.size ∉ blk ds ss ms r ∧ wr.heap.size ≠ q) := ⟨fun hy => by have := (hM3.made.at' r hr).lt _ hy; omega, by have := hM3.ql; omega⟩
          have i0 : (i : Int) < n := by omega
          have i1 : (0 : Int) ≤ (i : Int) := by omega
          have r0 : (0 : Int) ≤ (r : Int) := by omega
          have r1 : (r : Int) < j := by omega
          have i60 : i < 60 := by omega
          clear hM3 hrv
          go_wp2_with fail
          refine wp_region_noPanic ?_
          refine wp_region_held_drew (S := fun V => V.cell? ⟨ob, off + i, none⟩ = some (.int .i64 (f i)) ∧ V.cell? ⟨g, r, none⟩ = some (.pointer (some ⟨ds r, 0, none⟩))) (by kernel_rfl) ?_ (fun hHeld => ?_)
          · exact ⟨c0, c1⟩
          refine take_at (i := 0) (v := ?_) (some 62) rfl rfl (by kernel_rfl) (by kernel_rfl) (by kernel_rfl) (fun _ _ _ h => h) (Or.inl ⟨by rfl, ?_⟩) (by assumption) ?_
          rotate_left
          · (intro w hSw; (try dsimp only at hSw); go_simp; try with_reducible rfl)
          simp only [Act.put, List.setIfInBounds_toArray, List.set_cons_zero, List.set_cons_succ]
          refine take_at (i := 1) (v := ?_) (some 63) rfl rfl (by kernel_rfl) (by kernel_rfl) (by kernel_rfl) (fun _ _ _ h => h) (Or.inl ⟨by rfl, ?_⟩) (by assumption) ?_
          rotate_left
          · (intro w hSw; (try dsimp only at hSw); go_simp; try with_reducible rfl)
          simp only [Act.put, List.setIfInBounds_toArray, List.set_cons_zero, List.set_cons_succ]
          refine take_at (i := 2) (v := ?_) (some 64) rfl rfl (by kernel_rfl) (by kernel_rfl) (by kernel_rfl) (fun _ _ _ h => h) (Or.inl ⟨by rfl, ?_⟩) (by assumption) ?_
          rotate_left
          · (intro w hSw; (try dsimp only at hSw); go_simp; try with_reducible rfl)
          simp only [Act.put, List.setIfInBounds_toArray, List.set_cons_zero, List.set_cons_succ]
          refine take_at (i := 3) (v := ?_) (some 65) rfl rfl (by kernel_rfl) (by kernel_rfl) (by kernel_rfl) (fun _ _ _ h => h) (Or.inl ⟨by rfl, ?_⟩) (by assumption) ?_
          rotate_left
          · (intro w hSw; (try dsimp only at hSw); go_simp; try with_reducible rfl)
          simp only [Act.put, List.setIfInBounds_toArray, List.set_cons_zero, List.set_cons_succ]
          refine take_at (i := 4) (v := ?_) (some 66) rfl rfl (by kernel_rfl) (by kernel_rfl) (by kernel_rfl) (fun _ _ _ h => h) (Or.inl ⟨by rfl, ?_⟩) (by assumption) ?_
          rotate_left
          · (intro w hSw; (try dsimp only at hSw); go_simp; try with_reducible rfl)
          simp only [Act.put, List.setIfInBounds_toArray, List.set_cons_zero, List.set_cons_succ]
          refine take_at (i := 5) (v := ?_) (some 67) rfl rfl (by kernel_rfl) (by kernel_rfl) (by kernel_rfl) (fun _ _ _ h => h) (Or.inl ⟨by rfl, ?_⟩) (by assumption) ?_
          rotate_left
          · (intro w hSw; (try dsimp only at hSw); go_simp; try with_reducible rfl)
          simp only [Act.put, List.setIfInBounds_toArray, List.set_cons_zero, List.set_cons_succ]
          refine call_at (i := 6) (some 68) 27 _ _ rfl rfl rfl (by rfl) (by kernel_rfl) #[.int .i64 (f i), .int .i64 (j : Int)] rfl Try.func27 (by kernel_rfl) (by kernel_rfl) ?_
          refine (PK.out _).mono ?_
          rintro e w5 ⟨rfl, h5⟩
          rw [h5]
          clear h5 w5
          refine ⟨_, rfl, hHeld, fun hHeld => ?_⟩
          simp only [Act.put, List.setIfInBounds_toArray, List.set_cons_zero, List.set_cons_succ]
          refine take_at (i := 7) (v := ?_) (some 69) rfl rfl (by kernel_rfl) (by kernel_rfl) (by kernel_rfl) (fun _ _ _ h => h) (Or.inl ⟨by rfl, ?_⟩) (by assumption) ?_
          rotate_left
          · (intro w hSw; (try dsimp only at hSw); go_simp; try with_reducible rfl)
          simp only [Act.put, List.setIfInBounds_toArray, List.set_cons_zero, List.set_cons_succ]
          refine take_at (i := 8) (v := ?_) (some 70) rfl rfl (by kernel_rfl) (by kernel_rfl) (by kernel_rfl) (fun _ _ _ h => h) (Or.inl ⟨by rfl, ?_⟩) (by assumption) ?_
          rotate_left
          · (intro w hSw; (try dsimp only at hSw); go_simp; try with_reducible rfl)
          simp only [Act.put, List.setIfInBounds_toArray, List.set_cons_zero, List.set_cons_succ]
          refine call_at (i := 9) (some 71) 24 _ _ rfl rfl rfl (by rfl) (by kernel_rfl) #[.int .u8 1] rfl Try.func24 (by kernel_rfl) (by kernel_rfl) ?_
          refine (sector_any 1 _).mono ?_
          rintro e w5 ⟨rfl, o5, b5⟩
          have B5 : Below wr.heap.size wr w5 := (Below.refl _ wr).drew.trans b5
          have M5 : Hid (Many w1 w5 g j ds ss ms q Ds3 (lOf x i) (uOf x i) (cOf x i)) := HM.out.below B5
          have L5 : Hid (Lies w5 wr.heap.size 0 256 (fun _ => 1)) := o5.irow.lies (fun _ _ => by omega)
          have S5 : w5.cell? ⟨ob, off + i, none⟩ = some (.int .i64 (f i)) ∧ w5.cell? ⟨g, r, none⟩ = some (.pointer (some ⟨ds r, 0, none⟩)) := ⟨(B5.cell (p := ⟨ob, off + i, none⟩) lo).trans c0, (B5.cell (p := ⟨g, r, none⟩) gl).trans c1⟩
          clear o5 b5 B5
          refine ⟨_, rfl, S5, fun hHeld => ?_⟩
          simp only [Act.put, List.setIfInBounds_toArray, List.set_cons_zero, List.set_cons_succ]
          refine call_at (i := 10) (some 72) 13 _ _ rfl rfl rfl (by rfl) (by kernel_rfl) #[.pointer (some ⟨ds r, 0, none⟩), .int .i64 0, .slice (some ⟨wr.heap.size, 0, none⟩) 256 256] rfl Try.func13 (by kernel_rfl) (by kernel_rfl) ?_
          refine (many_write w1 _ g j q r wr.heap.size 0 256 i ds ss ms Ds3 x _ M5.out hr i60 L5.out (Nat.le_refl _) E5.out).mono ?_
          rintro e w6 ⟨rfl, hM6⟩
          have M6 : Hid (∃ Ds', Many w1 w6 g j ds ss ms q Ds' (lOf x (i + 1)) (uOf x (i + 1)) (cOf x (i + 1))) := hM6
          have S6 : w6.cell? ⟨ob, off + i, none⟩ = some (.int .i64 (f i)) ∧ w6.cell? ⟨g, r, none⟩ = some (.pointer (some ⟨ds r, 0, none⟩)) := by
            obtain ⟨Ds6, h6⟩ := hM6
            obtain ⟨ob', off', e', c0', _⟩ := (HA.out.below (B1.out.trans (h6.made.bel.mono B1.out.size))) i hlt
            cases e'
            exact ⟨c0', h6.lst.1 r hr⟩
          clear hM6
          refine ⟨_, rfl, S6, fun hHeld => ?_⟩
          simp only [Act.put, List.setIfInBounds_toArray, List.set_cons_zero, List.set_cons_succ]
          refine take_at (i := 11) (v := ?_) (some 13) rfl rfl (by kernel_rfl) (by kernel_rfl) (by kernel_rfl) (fun _ _ _ h => h) (Or.inl ⟨by rfl, ?_⟩) (by assumption) ?_
          rotate_left
          · (intro w hSw; (try dsimp only at hSw); go_simp; try with_reducible rfl)
          simp only [Act.put, List.setIfInBounds_toArray, List.set_cons_zero, List.set_cons_succ]
          refine wpAnyH_done (by kernel_rfl) ?_ _
          refine NoPanic.normal ?_
          have RR : Hid (fuRel w1 g j q n ds ss ms x (.int .i64 ((i : Int) + 1)) w6) := fu_next hlt M6.out
          clear hHeld c0 c1 S5 E5 S6 M5 L5 PK
          by_cases hix : (i : Int) < x
          · have ec : codeOf x i = 0 := if_pos hix
            rw [ec]
            go_wp2_with fail
            go_roundw
            case rel => exact RR.out
            case measure => exact less_of hlt
          · have ec : codeOf x i = 11 := if_neg hix
            rw [ec]
            go_wp2_with fail
            go_roundw
            case rel => exact RR.out
            case measure => exact less_of hlt
        · have i0 : ¬ (i : Int) < n := by omega
          obtain rfl : i = n := by omega
          have B9 : Hid (Below w.heap.size w wr) := B1.out.trans (hM3.made.bel.mono B1.out.size)
          have ST : Hid (suRel wr j Ds3 (.int .i64 0) (.int .i64 0) wr) := ⟨0, by omega, rfl, rfl, rfl⟩
          clear hM3
          go_wp2_with fail
          go_loopw [14, 15] (fun c p w' => suRel wr j Ds3 c p w') (fun _ p _ => j - (RowKit.intOf p).toNat)
          case atStart => exact ST.out
          case round =>
            obtain ⟨p, hp, rfl, rfl, rfl⟩ := hrel
            clear ST
            by_cases hlt : p < j
            · have c1 : wr.cell? ⟨g, p, none⟩ = some (.pointer (some ⟨ds p, 0, none⟩)) := HM.out.lst.1 p hlt
              have OP : Hid (Calls Try.prog 19 #[.pointer (some ⟨ds p, 0, none⟩)] wr fun e w' => e = .returned (.int .i64 (Ds3 p).ops) ∧ w' = wr) := ops_ok wr (ds p) (ss p) (ms p) (Ds3 p) (HM.out.made.at' p hlt)
              have UP : Hid (Calls Try.prog 20 #[.pointer (some ⟨ds p, 0, none⟩)] wr fun e w' => e = .returned (.bool (!uOf x i)) ∧ w' = wr) := many_up HM.out hlt
              obtain ⟨q1, q2⟩ := su_wrap (Ds := Ds3) hlt (fun i hi => (HM.out.of i hi).2.2.2) (by rw [HM.out.sum]; exact HM.out.cs)
              have RR : Hid (suRel wr j Ds3 (.int .i64 (psum Ds3 p + (Ds3 p).ops)) (.int .i64 ((p : Int) + 1)) wr) := su_next hlt
              have p0 : (p : Int) < j := by omega
              have p1 : (0 : Int) ≤ (p : Int) := by omega
              by_cases hix : (i : Int) ≤ x
              · have eu : uOf x i = false := decide_eq_false (by omega)
                rw [eu] at UP
                go_wp2_with (first
                  | (go_at_call 19; refine OP.out.mono ?_; rintro e w5 ⟨rfl, h5⟩; rw [h5]; clear h5 w5)
                  | (go_at_call 20; refine UP.out.mono ?_; rintro e w5 ⟨rfl, h5⟩; rw [h5]; clear h5 w5))
                go_roundw
                case rel => exact RR.out
                case measure => exact less_of hlt
              · have eu : uOf x i = true := decide_eq_true (by omega)
                rw [eu] at UP
                go_wp2_with (first
                  | (go_at_call 19; refine OP.out.mono ?_; rintro e w5 ⟨rfl, h5⟩; rw [h5]; clear h5 w5)
                  | (go_at_call 20; refine UP.out.mono ?_; rintro e w5 ⟨rfl, h5⟩; rw [h5]; clear h5 w5))
                go_roundw
                case rel => exact RR.out
                case measure => exact less_of hlt
            · have p0 : ¬ (p : Int) < j := by omega
              obtain rfl : p = j := by omega
              have es : psum Ds3 p = cOf x i := HM.out.sum
              by_cases hix : (i : Int) ≤ x
              · have ec : cOf x i = (i : Int) := if_pos hix
                rw [es, ec]
                have mn : min x (i : Int) = i := by omega
                go_wp2_with fail
                go_ret
                exact ⟨rfl, B9.out⟩
              · have ec : cOf x i = x := if_neg hix
                rw [es, ec]
                have mn : min x (i : Int) = x := by omega
                go_wp2_with fail
                go_ret
                exact ⟨rfl, B9.out⟩
end Go.Proofs.Ytoehbljnapdbgaa
