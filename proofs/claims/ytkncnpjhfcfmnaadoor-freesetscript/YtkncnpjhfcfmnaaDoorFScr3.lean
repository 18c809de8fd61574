/-
  Walks, not a claim by itself: all acts of a set beside the reference's. By the verifier.
-/
import Derived.Test.YtkncnpjhfcfmnaaDoorFScr2
namespace Go.Proofs.YtkncnpjhfcfmnaaDoor
open Go.RowKit
set_option maxRecDepth 100000 in
theorem script_far (x : Int) (a : Option Addr) (m C : Nat) (W : World) (hT : DTab W) (h0 : 0 < W.heap.size) (h : x < 1 ∨ 512 < x ∨ 60 < m) : Calls Tryd.prog 3 #[.int .i64 x, .slice a m C] W fun e w' => e = .returned (.bool true) ∧ Below W.heap.size W w' := by
  by_cases h1 : x < 1 ∨ 512 < x
  · have N1 := hidIt fun (u : World) => new_er u x h1
    have N2 := hidIt fun (u : World) => rnew_er u x h1
    have AK := hidIt (awake_ok W hT h0)
    clear hT h0 h h1
    go_enter Tryd.func3, Tryd.ntmps3
    go_wp2_with (first
      | (go_at_call 9; refine (N1.out _).mono ?_; rintro e w' ⟨rfl, hw⟩; subst w')
      | (go_at_call 10; refine (N2.out _).mono ?_; rintro e w' ⟨rfl, hw⟩; subst w')
      | (go_at_call 11; refine AK.out.mono ?_; rintro e W1 ⟨rfl, hb⟩; have B1 := hidIt hb; clear hb))
    go_ret
    exact ⟨rfl, B1.out⟩
  · have h3 : 60 < (m : Int) := by omega
    obtain ⟨n, rfl⟩ : ∃ n : Nat, x = (n : Int) := ⟨x.toNat, by omega⟩
    have N1 := hidIt (new_ok W n (by omega) (by omega))
    have N2 := hidIt fun (u : World) => rnew_ok u n (by omega) (by omega)
    have AK := hidIt fun (u : World) (hu : Below W.heap.size W u) => awake_ok u (hT.below hu h0) (Nat.lt_of_lt_of_le h0 hu.size)
    clear hT h0 h h1
    go_enter Tryd.func3, Tryd.ntmps3
    go_wp2_with (first
      | (go_at_call 9; refine N1.out.mono ?_; rintro e W1 ⟨rfl, _, hb⟩; have B1 := hidIt hb; clear hb)
      | (go_at_call 10; refine (N2.out _).mono ?_; rintro e W2 ⟨rfl, _, hb⟩; have B2 := hidIt (B1.out.trans (hb.mono B1.out.size)); clear hb)
      | (go_at_call 11; refine (AK.out _ B2.out).mono ?_; rintro e W3 ⟨rfl, hb⟩; have B3 := hidIt (B2.out.trans (hb.mono B2.out.size)); clear hb))
    go_ret
    exact ⟨rfl, B3.out⟩
set_option maxRecDepth 100000 in
set_option maxHeartbeats 1000000 in
theorem script_near (n m C : Nat) (a : Option Addr) (KF NF : Nat → Int) (W : World) (hT : DTab W) (h0 : 0 < W.heap.size) (n1 : 1 ≤ n) (n2 : n ≤ 512) (hm : m ≤ 60) (hA : AArg W a m KF NF) : Calls Tryd.prog 3 #[.int .i64 (n : Int), .slice a m C] W fun e w' => e = .returned (.bool true) ∧ Below W.heap.size W w' := by
  have e3 : (60 < (m : Int)) = False := by simp; omega
  have N1 := hidIt (new_ok W n n1 n2)
  have N2 := hidIt fun (u : World) => rnew_ok u n n1 n2
  have T := hidIt (And.intro hT h0)
  have HA := hidIt hA
  have M60 := hidIt hm
  have NN := hidIt (And.intro n1 n2)
  clear hT h0 hA hm n1 n2
  go_enter Tryd.func3, Tryd.ntmps3
  go_wp2_with (first
    | (go_at_call 9; refine N1.out.mono ?_; clear N1; rintro e W1 ⟨rfl, s1, hb⟩; have B1 := hidIt hb; have S1 := hidIt s1; clear hb s1)
    | (go_at_call 10; refine (N2.out _).mono ?_; clear N2; rintro e W2 ⟨rfl, a2, hb⟩; have B2 := hidIt hb; have A2 := hidIt a2; clear hb a2))
  have I0 : PI W W2.heap.size W.heap.size (W1.heap.size + 1) W1.heap.size n (iniH n) (W2.alloc (.cells #[.pointer (some ⟨W.heap.size, 0, none⟩), .pointer (some ⟨W1.heap.size + 1, 0, none⟩)] 33)) := by
    have bl : Below W2.heap.size W2 (W2.alloc (.cells #[.pointer (some ⟨W.heap.size, 0, none⟩), .pointer (some ⟨W1.heap.size + 1, 0, none⟩)] 33)) := (Below.refl _ _).alloc (Nat.le_refl _) _
    have b2 := B1.out.trans (B2.out.mono B1.out.size)
    have b3 := b2.trans (bl.mono b2.size)
    have l1 := S1.out.l
    have l2 := A2.out.l
    have l3 := B2.out.size
    exact ⟨by simp [go_sem], by simp [go_sem], by simp [go_sem], by simp, (S1.out.below B2.out).below bl, ini_sok n NN.out.1 NN.out.2, (A2.out.congr (g := iniH n) (fun i hi => by unfold iniH; rw [if_pos hi])).below bl, T.out.1.below b3 T.out.2, b3, T.out.2, by omega, Nat.le_refl _, by omega, by omega, by omega, by omega, by omega, by omega, by omega⟩
  generalize W2.heap.size = p at *
  generalize W1.heap.size + 1 = r at *
  generalize W1.heap.size = B at *
  clear B1 S1 B2 A2
  go_loopw [10] (fun i wr => ∃ k : Nat, k ≤ m ∧ i = .int .i64 (k : Int) ∧ ∃ b h, PI W p b r B n h wr) (fun i _ => m - (RowKit.intOf i).toNat)
  case atStart => exact ⟨0, Nat.zero_le _, rfl, _, _, I0⟩
  case round =>
    obtain ⟨k, hk, rfl, b, h, hI⟩ := hrel
    clear I0
    have I := hidIt hI
    clear hI
    by_cases hlt : k < m
    · have k8 : Hid (k + 1 ≤ m) := hlt
      obtain ⟨ab, off, ha, c1, c2, _⟩ := (HA.out.below I.out.w) k hlt
      subst ha
      have RG : Hid (wr.rangeAt ab (off + k * 2) [.int .i64 (KF k), .int .i64 (NF k)]) := fun j v hj => by
        match j, hj with
        | 0, hj => injection hj with hj; rw [← hj]; exact c1
        | 1, hj => injection hj with hj; rw [← hj]; exact c2
        | j + 2, hj => simp at hj
      have m60 := M60.out
      have i0 : (k : Int) < (m : Int) := by omega
      have i1 : (0 : Int) ≤ (k : Int) := by omega
      have i4 : IntKind.i64.wrap ((k : Int) + 1) = (k : Int) + 1 := by rw [IntKind.wrap_i64]; omega
      have i5 : wrap64 ((k : Int) + 1) = (k : Int) + 1 := by unfold wrap64; omega
      have AC := hidIt (act_any W p b r B n h (KF k) (NF k) wr I.out)
      clear c1 c2 m60
      go_wp2_with (first
        | (refine wpList_load_mid (P := Tryd.prog) rfl 36 (.tmp 52) rfl ab (off + k * 2) rfl [.int .i64 (KF k), .int .i64 (NF k)] _ RG.out Tryd.underlying36 rfl (by kernel_rfl) ?_)
        | (go_at_call 12; refine AC.out.mono ?_; rintro e X2 ⟨rfl, b2, h2, p2⟩; have P2 := hidIt p2; clear p2)
        | (go_at_call 13; refine (told_ok W p b2 r B n h2 _ P2.out).mono ?_; rintro e X3 ⟨rfl, p3⟩; have P3 := hidIt p3; clear p3))
      exact ⟨⟨k + 1, k8.out, by simp, _, _, P3.out⟩, meas_m m k k8.out⟩
    · obtain rfl : k = m := by omega
      have i0 : ¬ (k : Int) < (k : Int) := by omega
      have AK := hidIt (awake_ok wr I.out.t (Nat.lt_of_lt_of_le I.out.z0 I.out.w.size))
      go_wp2_with (go_at_call 11; refine AK.out.mono ?_; rintro e X2 ⟨rfl, hb⟩; have B2 := hidIt (I.out.w.trans (hb.mono I.out.w.size)); clear hb)
      go_ret
      exact ⟨rfl, B2.out⟩
theorem script_any (x : Int) (a : Option Addr) (m C : Nat) (KF NF : Nat → Int) (W : World) (hT : DTab W) (h0 : 0 < W.heap.size) (hA : AArg W a m KF NF) : Calls Tryd.prog 3 #[.int .i64 x, .slice a m C] W fun e w' => e = .returned (.bool true) ∧ Below W.heap.size W w' := by
  by_cases h : x < 1 ∨ 512 < x ∨ 60 < m
  · exact script_far x a m C W hT h0 h
  · obtain ⟨n, rfl⟩ : ∃ n : Nat, x = (n : Int) := ⟨x.toNat, by omega⟩
    exact script_near n m C a KF NF W hT h0 (by omega) (by omega) (by omega) hA
end Go.Proofs.YtkncnpjhfcfmnaaDoor
