/-
  Walks, not a claim by itself: what is written is read as it was. By the verifier.
-/
import Derived.Test.YtkncnpjhfcfmnaaDoorFKn
namespace Go.Proofs.YtkncnpjhfcfmnaaDoor
open Go.RowKit Go.Shelf
attribute [local go_sem] Oper.semAt_some
theorem digits4 (a b c d : Nat) (ha : a ≤ 2) (hb : b ≤ 2) (hc : c ≤ 2) : (a * 4 ^ 0 + b * 4 ^ 1 + c * 4 ^ 2 + d * 4 ^ 3) / 4 ^ 0 % 4 = a ∧ (a * 4 ^ 0 + b * 4 ^ 1 + c * 4 ^ 2 + d * 4 ^ 3) / 4 ^ 1 % 4 = b ∧ (a * 4 ^ 0 + b * 4 ^ 1 + c * 4 ^ 2 + d * 4 ^ 3) / 4 ^ 2 % 4 = c := by
  refine ⟨?_, ?_, ?_⟩ <;> omega
theorem digits4' (a b c d : Nat) (ha : a ≤ 2) (hb : b ≤ 2) (hc : c ≤ 2) (hd : d ≤ 2) : (a * 4 ^ 0 + b * 4 ^ 1 + c * 4 ^ 2 + d * 4 ^ 3) / 4 ^ 3 % 4 = d := by omega
/-- A block's number where it is one of the first n, else 0. -/
def cl0 (h : Nat → Nat) (n i : Nat) : Nat := if i < n then h i else 0
theorem qd_cl (h : Nat → Nat) (n j t : Nat) : qd h n j t = cl0 h n (4 * j + t) * 4 ^ t := by
  unfold qd cl0
  split
  · rfl
  · rw [Nat.zero_mul]
theorem cl0_le (h : Nat → Nat) (hh : ∀ i, h i ≤ 2) (n i : Nat) : cl0 h n i ≤ 2 := by
  unfold cl0
  split
  · exact hh i
  · omega
theorem byteN_digit (h : Nat → Nat) (hh : ∀ i, h i ≤ 2) (n i : Nat) : byteN h n (i / 4) / 4 ^ (i % 4) % 4 = cl0 h n i := by
  unfold byteN
  rw [qd_cl, qd_cl, qd_cl, qd_cl]
  have l0 := cl0_le h hh n (4 * (i / 4) + 0)
  have l1 := cl0_le h hh n (4 * (i / 4) + 1)
  have l2 := cl0_le h hh n (4 * (i / 4) + 2)
  have l3 := cl0_le h hh n (4 * (i / 4) + 3)
  have lt : i % 4 < 4 := Nat.mod_lt _ (by decide)
  have e : i = 4 * (i / 4) + i % 4 := by omega
  conv => rhs; rw [e]
  generalize 4 * (i / 4) = q at *
  generalize i % 4 = m at *
  obtain ⟨d0, d1, d2⟩ := digits4 (cl0 h n (q + 0)) (cl0 h n (q + 1)) (cl0 h n (q + 2)) (cl0 h n (q + 3)) l0 l1 l2
  have d3 := digits4' (cl0 h n (q + 0)) (cl0 h n (q + 1)) (cl0 h n (q + 2)) (cl0 h n (q + 3)) l0 l1 l2 l3
  have hm : m = 0 ∨ m = 1 ∨ m = 2 ∨ m = 3 := by omega
  rcases hm with rfl | rfl | rfl | rfl
  · exact d0
  · exact d1
  · exact d2
  · exact d3
theorem byF_C (n : Nat) (h : Nat → Nat) : rdC (byF n h n) = n := by
  have e0 : byF n h n 0 = ((n % 256 : Nat) : Int) := rfl
  have e1 : byF n h n 1 = ((n / 256 : Nat) : Int) := rfl
  unfold rdC
  rw [e0, e1]
  simp only [Int.toNat_natCast]
  omega
theorem byF_sd {n : Nat} {h : Nat → Nat} (k : SOk n h) (i : Nat) (hi : i < n) : sdN (byF n h n) i = h i := by
  unfold sdN byF
  rw [if_neg (by omega), if_neg (by omega), show 2 + i / 4 - 2 = i / 4 by omega, Int.toNat_natCast, byteN_digit h k.le n i]
  unfold cl0
  rw [if_pos hi]
theorem byF_H {n : Nat} {h : Nat → Nat} (k : SOk n h) : rdH (byF n h n) n n = h := by
  funext i
  unfold rdH
  by_cases e : i < n
  · rw [if_pos e, byF_sd k i e]
    have := k.le i
    unfold putS
    have h3 : h i = 0 ∨ h i = 1 ∨ h i = 2 := by omega
    rcases h3 with h3 | h3 | h3 <;> rw [h3] <;> rfl
  · rw [if_neg e, k.out i (by omega)]
    unfold iniH
    rw [if_neg e]
theorem byF_ok {n : Nat} {h : Nat → Nat} (k : SOk n h) : rdOK (szN n) (byF n h n) := by
  unfold rdOK
  rw [byF_C, byF_H k]
  exact ⟨by unfold szN; omega, k.n1, k.n2, rfl, fun _ _ => rfl⟩
/-- What Read makes of a set's own bytes. -/
theorem read_own {n : Nat} {h : Nat → Nat} (k : SOk n h) (W : World) (B : Nat) (r : IRow W B .u8 (szN n) (byF n h n)) : Calls Tryd.prog 15 #[.slice (some ⟨B, 0, none⟩) (szN n) (szN n)] W fun e w' => ∃ S, W.heap.size ≤ S ∧ e = .returned (.tuple #[.pointer (some ⟨S, 0, none⟩), .int .i64 0]) ∧ SAt w' S n h ∧ Below W.heap.size W w' := by
  refine (read_any W _ (szN n) (szN n) (byF n h n) (Arg.of (r.lies (fun j _ => byF_range n h k.le k.n2 n j)))).mono ?_
  rintro e w' (⟨_, S, h1, h2, h3, h4⟩ | ⟨hn, _⟩)
  · rw [byF_C, byF_H k] at h3
    exact ⟨S, h1, h2, h3, h4⟩
  · exact absurd (byF_ok k) hn
/-- What holds while blocks are taken and let go. -/
structure BkI (W : World) (b n : Nat) (h : Nat → Nat) (X : World) : Prop where
  s : SAt X b n h
  k : SOk n h
  w : Below W.heap.size W X
  lb : W.heap.size ≤ b
theorem BkI.turn {W X Y : World} {b n : Nat} {h : Nat → Nat} {x : Int} {p q : Nat} (i : BkI W b n h X) (s : SAt Y b n (turnH n h x p q)) (hb : But b X Y) : BkI W b n (turnH n h x p q) Y :=
  ⟨s, turn_sok i.k x p q, i.w.trans (hb.below i.lb i.w.size), i.lb⟩
theorem BkI.kept {W X Y : World} {b n : Nat} {h : Nat → Nat} (i : BkI W b n h X) (hb : Below X.heap.size X Y) : BkI W b n h Y :=
  ⟨i.s.below hb, i.k, i.w.trans (hb.mono i.w.size), i.lb⟩
theorem undef_bool {b : Bool} (h : some undef = some (Value.bool b)) : False := by cases h
theorem meas_m (m k : Nat) (h : k + 1 ≤ m) : m - (RowKit.intOf (.int .i64 ((k : Int) + 1))).toNat < m - (RowKit.intOf (.int .i64 (k : Int))).toNat := by
  simp [RowKit.intOf]
  omega
set_option maxRecDepth 100000 in
theorem back_far (x : Int) (a1 a2 : Option Addr) (m1 C1 m2 C2 : Nat) (W : World) (hT : DTab W) (h0 : 0 < W.heap.size) (h : 300 < m1 ∨ 300 < m2 ∨ x < 1 ∨ 512 < x) : Calls Tryd.prog 8 #[.int .i64 x, .slice a1 m1 C1, .slice a2 m2 C2] W fun e w' => e = .returned (.bool true) ∧ Below W.heap.size W w' := by
  have K := hidIt (known_ok W hT h0)
  by_cases h1 : 300 < m1
  · have i1 : 300 < (m1 : Int) := by omega
    clear hT h0 h
    go_enter Tryd.func8, Tryd.ntmps8
    go_wp2_with (go_at_call 6; refine K.out.mono ?_; rintro e W1 ⟨rfl, hb⟩; have B1 := hidIt hb; clear hb)
    go_ret
    exact ⟨rfl, B1.out⟩
  · have i1 : (300 < (m1 : Int)) = False := by simp; omega
    by_cases h2 : 300 < m2
    · have i2 : 300 < (m2 : Int) := by omega
      clear hT h0 h
      go_enter Tryd.func8, Tryd.ntmps8
      go_wp2_with (go_at_call 6; refine K.out.mono ?_; rintro e W1 ⟨rfl, hb⟩; have B1 := hidIt hb; clear hb)
      go_ret
      exact ⟨rfl, B1.out⟩
    · have i2 : (300 < (m2 : Int)) = False := by simp; omega
      have N := hidIt fun (u : World) => new_er u x (by omega)
      clear hT h0 h
      go_enter Tryd.func8, Tryd.ntmps8
      go_wp2_with (first
        | (go_at_call 6; refine K.out.mono ?_; rintro e W1 ⟨rfl, hb⟩; have B1 := hidIt hb; clear hb)
        | (go_at_call 9; refine (N.out _).mono ?_; rintro e w' ⟨rfl, hw⟩; subst w'))
      go_ret
      exact ⟨rfl, B1.out⟩
set_option maxRecDepth 100000 in
set_option maxHeartbeats 2000000 in
theorem back_near (n : Nat) (a1 a2 : Option Addr) (m1 C1 m2 C2 : Nat) (f1 f2 : Nat → Int) (W : World) (hT : DTab W) (h0 : 0 < W.heap.size) (n1 : 1 ≤ n) (n2 : n ≤ 512) (hm1 : m1 ≤ 300) (hm2 : m2 ≤ 300) (A1 : Arg W a1 m1 f1) (A2 : Arg W a2 m2 f2) : Calls Tryd.prog 8 #[.int .i64 (n : Int), .slice a1 m1 C1, .slice a2 m2 C2] W fun e w' => e = .returned (.bool true) ∧ Below W.heap.size W w' := by
  refine (callsIn_wide (n := 3)).1 ?_
  have K := hidIt (known_ok W hT h0)
  have NW := hidIt fun (u : World) => new_ok u n n1 n2
  have H1 := hidIt A1
  have H2 := hidIt A2
  have e1 : (300 < (m1 : Int)) = False := by simp; omega
  have e2 : (300 < (m2 : Int)) = False := by simp; omega
  have e3 : IntKind.i64.wrap ((n : Int) + 1) = (n : Int) + 1 := by rw [IntKind.wrap_i64]; omega
  have e4 : wrap64 ((n : Int) + 1) = (n : Int) + 1 := by unfold wrap64; omega
  clear hT h0 A1 A2
  refine callsIn_of_wp Tryd.func8 rfl trivial ?_ rfl
  simp only [Tryd.ntmps8, List.size_toArray, List.length_cons, List.length_nil, Nat.reduceAdd, Nat.reduceSub, Array.replicate_succ, Array.replicate_zero, List.push_toArray, List.append_toArray, List.nil_append, List.cons_append]
  gi_wp2
  refine ⟨trivial, ?_⟩
  refine CallsIn.mono ((callsIn_wide (n := _)).2 K.out) ?_
  rintro e W1 ⟨rfl, hb⟩
  have B1 := hidIt hb
  clear hb K
  gi_wp2
  refine ⟨trivial, ?_⟩
  refine CallsIn.mono ((callsIn_wide (n := _)).2 (NW.out W1)) ?_
  rintro e W2 ⟨rfl, hs, hb⟩
  have I0 : BkI W W1.heap.size n (iniH n) W2 := ⟨hs, ini_sok n n1 n2, B1.out.trans (hb.mono B1.out.size), B1.out.size⟩
  clear hb hs NW
  generalize W1.heap.size = b at *
  clear B1
  gi_wp2
  gi_loopw [10] (fun i wr => ∃ k : Nat, k ≤ m1 ∧ i = .int .i64 (k : Int) ∧ ∃ h, BkI W b n h wr) (fun i _ => m1 - (RowKit.intOf i).toNat)
  case atStart => exact ⟨0, Nat.zero_le _, rfl, _, I0⟩
  case round =>
    obtain ⟨k, hk, rfl, h, hI⟩ := hrel
    clear I0
    have I := hidIt hI
    clear hI
    by_cases hlt : k < m1
    · have hlt' := hidIt hlt
      obtain ⟨lb, loff, ha, hl⟩ : ∃ b' off, a1 = some ⟨b', off, none⟩ ∧ Lies W b' off m1 f1 := by
        rcases H1.out with ⟨q, _⟩ | ⟨_, b', off, q1, q2⟩
        · omega
        · exact ⟨b', off, q1, q2⟩
      subst ha
      have HL := hidIt hl
      have hf := hl.2.1 k hlt
      have c1 : wr.cell? ⟨lb, loff + k, none⟩ = some (.int .u8 (f1 k)) := (hl.below I.out.w).1 k hlt
      clear hl
      have i0 : (k : Int) < (m1 : Int) := by omega
      have i1 : (0 : Int) ≤ (k : Int) := by omega
      have i2 : IntKind.i64.wrap (f1 k) = f1 k := by rw [IntKind.wrap_i64]; omega
      have i3 : IntKind.i64.wrap (1 + f1 k) = 1 + f1 k := by rw [IntKind.wrap_i64]; omega
      have i4 : wrap64 (1 + f1 k) = 1 + f1 k := by unfold wrap64; omega
      have i5 : (0 : Int) ≤ f1 k := hf.1
      clear hf
      gi_wp2
      refine ⟨trivial, ?_⟩
      refine CallsIn.mono ((callsIn_wide (n := _)).2 (take_ok wr b n h (1 + f1 k) I.out.s I.out.k)) ?_
      rintro e W3 ⟨rfl, s3, b3, _⟩
      have J := hidIt (I.out.turn s3 b3)
      have c2 : W3.cell? ⟨lb, loff + k, none⟩ = some (.int .u8 (f1 k)) := (HL.out.below J.out.w).1 k hlt'.out
      clear s3 b3 c1
      have k8 : Hid (k + 1 ≤ m1) := hlt
      by_cases h3 : (f1 k % 3 == 0) = true
      · gi_wp2
        refine ⟨trivial, ?_⟩
        refine CallsIn.mono ((callsIn_wide (n := _)).2 (release_ok W3 b n _ (1 + f1 k) J.out.s J.out.k)) ?_
        rintro e W4 ⟨rfl, s4, b4, _⟩
        have J4 := hidIt (J.out.turn s4 b4)
        clear s4 b4
        gi_wp2
        go_roundw
        case rel => exact ⟨k + 1, k8.out, by simp, _, J4.out⟩
        case measure => exact meas_m m1 k k8.out
      · simp only [Bool.not_eq_true] at h3
        gi_wp2
        go_roundw
        case rel => exact ⟨k + 1, k8.out, by simp, _, J.out⟩
        case measure => exact meas_m m1 k k8.out
    · obtain rfl : k = m1 := by omega
      have i0 : ¬ (k : Int) < (k : Int) := by omega
      gi_wp2
      refine ⟨trivial, ?_⟩
      refine CallsIn.mono ((callsIn_wide (n := _)).2 (bytes_ok wr b n h I.out.s I.out.k)) ?_
      rintro e W3 ⟨rfl, r3, b3⟩
      have J := hidIt (I.out.kept b3)
      have R3 := hidIt r3
      clear r3 b3
      gi_wp2
      refine ⟨trivial, ?_⟩
      refine CallsIn.mono ((callsIn_wide (n := _)).2 (read_own J.out.k W3 wr.heap.size R3.out)) ?_
      rintro e W4 ⟨t, _, rfl, s4, b4⟩
      have J4 := hidIt (And.intro (J.out.kept b4) s4)
      clear s4 b4 J R3 I
      gi_wp2
      gi_loopw [13] (fun i wr => ∃ j : Nat, j ≤ n + 2 ∧ i = .int .i64 (j : Int) ∧ BkI W b n h wr ∧ SAt wr t n h) (fun i _ => n + 2 - (RowKit.intOf i).toNat)
      case atStart => exact ⟨0, Nat.zero_le _, rfl, J4.out⟩
      case round =>
        obtain ⟨j, hj, rfl, hM⟩ := hrel
        have M := hidIt hM
        clear hM J4
        by_cases hj1 : j ≤ n + 1
        · have j1 : (j : Int) ≤ (n : Int) + 1 := by omega
          have j2 : (j : Int) < 514 := by omega
          have j5 : IntKind.i64.wrap ((j : Int) + 1) = (j : Int) + 1 := by rw [IntKind.wrap_i64]; omega
          have j6 : wrap64 ((j : Int) + 1) = (j : Int) + 1 := by unfold wrap64; omega
          have k8 : Hid (j + 1 ≤ n + 2) := by show j + 1 ≤ n + 2; omega
          gi_wp2
          refine ⟨trivial, ?_⟩
          refine CallsIn.mono ((callsIn_wide (n := _)).2 (is_ok wr t n h (j : Int) M.out.2 M.out.1.k)) ?_
          rintro e W5 ⟨rfl, q5⟩
          have M5 := hidIt (And.intro (M.out.1.kept q5.1) (M.out.2.below q5.1))
          clear q5
          gi_wp2
          refine ⟨trivial, ?_⟩
          refine CallsIn.mono ((callsIn_wide (n := _)).2 (is_ok W5 b n h (j : Int) M5.out.1.s M5.out.1.k)) ?_
          rintro e W6 ⟨rfl, q6⟩
          have M6 := hidIt (And.intro (M5.out.1.kept q6.1) (M5.out.2.below q6.1))
          clear q6
          gi_wp2
          go_roundw
          case rel => exact ⟨j + 1, k8.out, by simp, M6.out⟩
          case measure => exact meas_m (n + 2) j k8.out
        · obtain rfl : j = n + 2 := by omega
          have j1 : (((n + 2 : Nat) : Int) ≤ (n : Int) + 1) = False := by simp
          generalize ((n + 2 : Nat) : Int) = z at *
          gi_wp2
          refine ⟨trivial, ?_⟩
          refine CallsIn.mono ((callsIn_wide (n := _)).2 (read_any wr a2 m2 C2 f2 (H2.out.below M.out.1.w))) ?_
          rintro e W5 (⟨hok, S, _, rfl, s5, b5⟩ | ⟨_, rfl, b5⟩)
          · have B5 := hidIt (And.intro (M.out.1.w.trans (b5.mono M.out.1.w.size)) s5)
            have OK := hidIt hok
            clear b5 s5 hok
            gi_wp2
            refine ⟨trivial, ?_⟩
            refine CallsIn.mono ((callsIn_wide (n := _)).2 (bytes_ok W5 S (rdC f2) _ B5.out.2 (rdH_sok f2 (rdC f2) (rdC f2) OK.out.2.1 OK.out.2.2.1 (Nat.le_refl _)))) ?_
            rintro e W6 ⟨rfl, r6, b6⟩
            have B6 := hidIt (And.intro (B5.out.1.trans (b6.mono B5.out.1.size)) r6)
            clear b6 r6
            gi_wp2
            refine ⟨trivial, ?_⟩
            refine CallsIn.mono ((callsIn_wide (n := _)).2 (same_any _ a2 _ m2 _ C2 _ f2 W6 (Arg.of (B6.out.2.lies (fun q _ => byF_range _ _ (rdH_sok f2 (rdC f2) (rdC f2) OK.out.2.1 OK.out.2.2.1 (Nat.le_refl _)).le OK.out.2.2.1 _ q))) (H2.out.below B6.out.1))) ?_
            rintro e w' ⟨rfl, hw⟩
            subst w'
            have eq : decide (txtN (szN (rdC f2)) (byF (rdC f2) (rdH f2 (rdC f2) (rdC f2)) (rdC f2)) = txtN m2 f2) = true := by
              rw [decide_eq_true_eq, ← OK.out.2.2.2.1]
              exact txtN_congr _ _ _ fun q hq => (OK.out.2.2.2.2 q hq).symm
            rw [eq]
            gi_wp2
            go_ret
            exact ⟨by simp, B6.out.1⟩
          · have B5 := hidIt (M.out.1.w.trans (b5.mono M.out.1.w.size))
            clear b5
            gi_wp2
            all_goals try exact (undef_bool (by assumption)).elim
            refine ⟨trivial, ?_⟩
            gi_wp2
            all_goals try exact (undef_bool (by assumption)).elim
            refine ⟨trivial, ?_⟩
            gi_wp2
            go_ret
            exact ⟨by simp, B5.out⟩
theorem back_any (x : Int) (a1 a2 : Option Addr) (m1 C1 m2 C2 : Nat) (f1 f2 : Nat → Int) (W : World) (hT : DTab W) (h0 : 0 < W.heap.size) (A1 : Arg W a1 m1 f1) (A2 : Arg W a2 m2 f2) : Calls Tryd.prog 8 #[.int .i64 x, .slice a1 m1 C1, .slice a2 m2 C2] W fun e w' => e = .returned (.bool true) ∧ Below W.heap.size W w' := by
  by_cases h : 300 < m1 ∨ 300 < m2 ∨ x < 1 ∨ 512 < x
  · exact back_far x a1 a2 m1 C1 m2 C2 W hT h0 h
  · obtain ⟨n, rfl⟩ : ∃ n : Nat, x = (n : Int) := ⟨x.toNat, by omega⟩
    exact back_near n a1 a2 m1 C1 m2 C2 f1 f2 W hT h0 (by omega) (by omega) (by omega) (by omega) A1 A2
end Go.Proofs.YtkncnpjhfcfmnaaDoor
