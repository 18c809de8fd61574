/-
  Walks, not a claim by itself: ChecksumOpens. By the verifier.
-/
import Derived.Test.YtgcmlnjmfdoomaaCSums
import Derived.Test.YtgcmlnjmfdoomaaHOpen
import Derived.Test.YtgcmlnjmfdoomaaBApart2
namespace Go.Proofs.Ytgcmlnjmfdoomaa
open Go.RowKit
set_option maxHeartbeats 1000000 in
theorem opens_long (a : Option Addr) (n C : Nat) (w : World) (h : 5000 < n) :
    Calls Try.prog 4 #[.slice a n C] w fun e w' => e = .returned (.bool true) ∧ Below w.heap.size w w' := by
  have e1 : (5000 : Int) < n := by omega
  go_enter Try.func4, Try.ntmps4
  go_wp2_with fail
  go_ret
  exact ⟨rfl, Below.refl _ _⟩
/-- Three lists that lie apart. -/
theorem three_apart (B : Nat) (W : World) (L0 L1 L2 : Lst) (F0 F1 F2 : Nat → Int) (h0 : L0.ok B W F0) (h1 : L1.ok B W F1) (h2 : L2.ok B W F2) (hB : B ≤ W.heap.size)
    (l0 : ∀ p, L0.a = some p → p.block < W.heap.size) (l1 : ∀ p, L1.a = some p → p.block < W.heap.size) (l2 : ∀ p, L2.a = some p → p.block < W.heap.size)
    (d01 : ∀ p q, L0.a = some p → L1.a = some q → p.block ≠ q.block) (d02 : ∀ p q, L0.a = some p → L2.a = some q → p.block ≠ q.block) (d12 : ∀ p q, L1.a = some p → L2.a = some q → p.block ≠ q.block) :
    Calls Try.prog 19 #[.slice (some ⟨W.heap.size, 0, none⟩) 3 3] (W.alloc (.cells #[L0.val, L1.val, L2.val] 22)) fun e w' => e = .returned (.bool true) ∧ Below B W w' := by
  let Ls : Nat → Lst := fun k => match k with | 0 => L0 | 1 => L1 | _ => L2
  let Fs : Nat → Nat → Int := fun k => match k with | 0 => F0 | 1 => F1 | _ => F2
  have hb : Below W.heap.size W (W.alloc (.cells #[L0.val, L1.val, L2.val] 22)) := (Below.refl _ _).alloc (Nat.le_refl _) _
  have inv : ApInv (W.alloc (.cells #[L0.val, L1.val, L2.val] 22)) B W.heap.size 3 Ls Fs (W.alloc (.cells #[L0.val, L1.val, L2.val] 22)) := by
    refine ⟨fun k hk => ?_, fun k hk => ?_, Nat.le_refl _, Below.refl _ _⟩
    · rw [World.cell?_alloc_at _ _ _ _ rfl]
      match k, hk with
      | 0, _ => rfl
      | 1, _ => rfl
      | 2, _ => rfl
      | k + 3, hk => omega
    · match k, hk with
      | 0, _ => exact h0.below hb
      | 1, _ => exact h1.below hb
      | 2, _ => exact h2.below hb
      | k + 3, hk => omega
  have sep : ApSep (W.alloc (.cells #[L0.val, L1.val, L2.val] 22)) B W.heap.size 3 Ls := by
    refine ⟨by simp, by simp; omega, fun k hk p hp => ?_, fun i k hi hk hne p q hp hq => ?_⟩
    · have : p.block < W.heap.size := by
        match k, hk, hp with
        | 0, _, hp => exact l0 p hp
        | 1, _, hp => exact l1 p hp
        | 2, _, hp => exact l2 p hp
        | k + 3, hk, _ => omega
      exact ⟨by omega, by simp; omega⟩
    · match i, k, hi, hk, hp, hq with
      | 0, 0, _, _, _, _ => exact absurd rfl hne
      | 1, 1, _, _, _, _ => exact absurd rfl hne
      | 2, 2, _, _, _, _ => exact absurd rfl hne
      | 0, 1, _, _, hp, hq => exact d01 p q hp hq
      | 0, 2, _, _, hp, hq => exact d02 p q hp hq
      | 1, 2, _, _, hp, hq => exact d12 p q hp hq
      | 1, 0, _, _, hp, hq => exact (d01 q p hq hp).symm
      | 2, 0, _, _, hp, hq => exact (d02 q p hq hp).symm
      | 2, 1, _, _, hp, hq => exact (d12 q p hq hp).symm
      | i + 3, _, hi, _, _, _ => omega
      | _, k + 3, _, hk, _, _ => omega
  refine (apart_any B W.heap.size 3 3 Ls Fs _ inv sep (by omega)).mono ?_
  rintro e w' ⟨rfl, hB'⟩
  exact ⟨rfl, (hb.mono hB).trans hB'⟩
set_option maxRecDepth 100000 in
set_option maxHeartbeats 2000000 in
theorem opens_few (a : Option Addr) (n C : Nat) (f : Nat → Int) (w : World) (h : Arg w a n f) (hn : n ≤ 5000) (h16 : n < 16) :
    Calls Try.prog 4 #[.slice a n C] w fun e w' => e = .returned (.bool true) ∧ Below w.heap.size w w' := by
  have e1 : ¬ (5000 : Int) < n := by omega
  have HA : Hid (Arg w a n f) := h
  have FB : Hid (∀ j, j < n → 0 ≤ f j ∧ f j < 256) := h.bytes
  clear h
  go_enter Try.func4, Try.ntmps4
  go_wp2_with fail
  refine (lent_any a n C f _ HA.out (by omega)).mono ?_
  rintro e u1 ⟨g, rfl, hg, R1, K1⟩
  have A1 := HA.out.below K1
  have b1 := R1.2.2
  clear HA
  go_wp2_with fail
  refine (seal_any (some ⟨g, 0, none⟩) n (n + 3) f _ (Arg.of (lent_lies FB.out R1)) (by omega) (by omega)).mono ?_
  rintro e u2 ⟨gx, rfl, hgx, X2, K2⟩
  have A2 := A1.below K2
  have R2 := R1.below K2
  have B2 := K1.trans (K2.mono K1.size)
  have b2 := X2.2.2
  clear A1 R1 K1
  have s2 := K2.size
  clear K2
  go_wp2_with fail
  refine (open_few (some ⟨g, 0, none⟩) n (n + 3) _ h16).mono ?_
  rintro e u3 ⟨rfl, rfl⟩
  go_wp2_with fail
  refine (hopen_few a n C _ h16).mono ?_
  rintro e u4 ⟨rfl, rfl⟩
  have A4 := A2
  have R4 := R2
  have X4 := X2
  have B4 := B2
  clear A2 R2 X2 B2
  have HA4 : Hid (Arg u4 a n f) := A4
  have HR4 : Hid (IRow u4 g .u8 (n + 3) (lentF n f 3)) := R4
  have HX4 : Hid (IRow u4 gx .u8 (16 + n) (sealedF n f)) := X4
  have HB4 : Hid (Below w.heap.size w u4) := B4
  clear A4 R4 X4 B4
  go_wp2_with fail
  refine (hseal_any a n C f _ HA4.out (by omega)).mono ?_
  rintro e u5 ⟨aq, caps, rfl, Z5, K5⟩
  have A5 := HA4.out.below K5
  have R5 := HR4.out.below K5
  have X5 := HX4.out.below K5
  have B5 := HB4.out.trans (K5.mono HB4.out.size)
  clear HA4 HR4 HX4 HB4 K5
  have XB : Hid (∀ j, j < 16 + n → 0 ≤ sealedF n f j ∧ sealedF n f j < 256) := fun j hj => sealedF_byte n f FB.out j hj
  go_wp2_with fail
  refine (same_any (some ⟨gx, 0, none⟩) aq (16 + n) (16 + n) (16 + n) caps (sealedF n f) (sealedF n f) _ (Arg.of (X5.lies XB.out)) Z5).mono ?_
  rintro e u6 ⟨rfl, hw⟩
  rw [hw, decide_eq_true rfl]
  clear hw u6 Z5
  have HA5 : Hid (Arg u5 a n f) := A5
  have HR5 : Hid (IRow u5 g .u8 (n + 3) (lentF n f 3)) := R5
  have HX5 : Hid (IRow u5 gx .u8 (16 + n) (sealedF n f)) := X5
  have HB5 : Hid (Below w.heap.size w u5) := B5
  clear A5 R5 X5 B5
  go_wp2_with fail
  refine (same_any none none 0 0 0 0 (fun _ => 0) (fun _ => 0) _ (.inl ⟨rfl, .inl rfl⟩) (.inl ⟨rfl, .inl rfl⟩)).mono ?_
  rintro e u6 ⟨rfl, hw⟩
  rw [hw, decide_eq_true rfl]
  clear hw u6
  go_wp2_with fail
  refine (kept_any g a n C f _ HA5.out (by omega) HR5.out).mono ?_
  rintro e u7 ⟨rfl, K7⟩
  have HR7 : Hid (IRow u7 g .u8 (n + 3) (lentF n f 3)) := HR5.out.below K7
  have HX7 : Hid (IRow u7 gx .u8 (16 + n) (sealedF n f)) := HX5.out.below K7
  have HB7 : Hid (Below w.heap.size w u7) := HB5.out.trans (K7.mono HB5.out.size)
  clear HA5 HR5 HX5 HB5 K7
  go_wp2_with fail
  refine (three_apart w.heap.size u7 ⟨some ⟨gx, 0, none⟩, 16 + n, 16 + n⟩ ⟨none, 0, 0⟩ ⟨some ⟨g, 0, none⟩, n, n + 3⟩ (sealedF n f) (fun _ => 0) (lentF n f 3)
    ⟨Nat.le_refl _, by show 16 + n ≤ 1000000; omega, XB.out, .inr ⟨gx, rfl, by omega, HX7.out⟩⟩
    ⟨Nat.le_refl _, by show 0 ≤ 1000000; omega, fun j hj => absurd hj (Nat.not_lt_zero _), .inl ⟨rfl, rfl⟩⟩
    ⟨by show n ≤ n + 3; omega, by show n + 3 ≤ 1000000; omega, fun j _ => lentF_byte n f 3 FB.out j, .inr ⟨g, rfl, hg, HR7.out⟩⟩
    HB7.out.size
    (fun p hp => by injection hp with hp; subst hp; exact HX7.out.2.2)
    (fun p hp => by cases hp)
    (fun p hp => by injection hp with hp; subst hp; exact HR7.out.2.2)
    (fun p q hp hq => by cases hq)
    (fun p q hp hq => by injection hp with hp; injection hq with hq; subst hp hq; show gx ≠ g; omega)
    (fun p q hp hq => by cases hp)).mono ?_
  rintro e u8 ⟨rfl, K8⟩
  have B8 : Hid (Below w.heap.size w u8) := HB7.out.trans K8
  clear K8 HR7 HX7 HB7
  go_wp2_with fail
  refine (awake_any _).mono ?_
  rintro e u9 ⟨rfl, K9⟩
  go_wp2_with fail
  go_ret
  exact ⟨rfl, B8.out.trans (K9.mono B8.out.size)⟩
set_option maxRecDepth 100000 in
set_option maxHeartbeats 2000000 in
theorem opens_no (a : Option Addr) (n C : Nat) (f : Nat → Int) (w : World) (h : Arg w a n f) (hC : n ≤ C) (hn : n ≤ 5000) (h16 : 16 ≤ n) (ho : opens n f = false) :
    Calls Try.prog 4 #[.slice a n C] w fun e w' => e = .returned (.bool true) ∧ Below w.heap.size w w' := by
  have e1 : ¬ (5000 : Int) < n := by omega
  have HA : Hid (Arg w a n f) := h
  have FB : Hid (∀ j, j < n → 0 ≤ f j ∧ f j < 256) := h.bytes
  clear h
  go_enter Try.func4, Try.ntmps4
  go_wp2_with fail
  refine (lent_any a n C f _ HA.out (by omega)).mono ?_
  rintro e u1 ⟨g, rfl, hg, R1, K1⟩
  have A1 := HA.out.below K1
  have b1 := R1.2.2
  clear HA
  go_wp2_with fail
  refine (seal_any (some ⟨g, 0, none⟩) n (n + 3) f _ (Arg.of (lent_lies FB.out R1)) (by omega) (by omega)).mono ?_
  rintro e u2 ⟨gx, rfl, hgx, X2, K2⟩
  have A2 := A1.below K2
  have R2 := R1.below K2
  have B2 := K1.trans (K2.mono K1.size)
  have b2 := X2.2.2
  clear A1 R1 K1
  have s2 := K2.size
  clear K2
  go_wp2_with fail
  refine (open_no (some ⟨g, 0, none⟩) n (n + 3) f _ (Arg.of (lent_lies FB.out R2)) h16 (by omega) (by omega) ho).mono ?_
  rintro e u3 ⟨rfl, K3⟩
  go_wp2_with fail
  refine (hopen_no a n C f _ (A2.below K3) h16 hC (by omega) ho).mono ?_
  rintro e u4 ⟨rfl, K4⟩
  have A4 := (A2.below K3).below K4
  have R4 := (R2.below K3).below K4
  have X4 := (X2.below K3).below K4
  have B3 := B2.trans (K3.mono B2.size)
  have B4 := B3.trans (K4.mono B3.size)
  clear A2 R2 X2 B2 B3 K3 K4 ho
  have HA4 : Hid (Arg u4 a n f) := A4
  have HR4 : Hid (IRow u4 g .u8 (n + 3) (lentF n f 3)) := R4
  have HX4 : Hid (IRow u4 gx .u8 (16 + n) (sealedF n f)) := X4
  have HB4 : Hid (Below w.heap.size w u4) := B4
  clear A4 R4 X4 B4
  go_wp2_with fail
  refine (hseal_any a n C f _ HA4.out (by omega)).mono ?_
  rintro e u5 ⟨aq, caps, rfl, Z5, K5⟩
  have A5 := HA4.out.below K5
  have R5 := HR4.out.below K5
  have X5 := HX4.out.below K5
  have B5 := HB4.out.trans (K5.mono HB4.out.size)
  clear HA4 HR4 HX4 HB4 K5
  have XB : Hid (∀ j, j < 16 + n → 0 ≤ sealedF n f j ∧ sealedF n f j < 256) := fun j hj => sealedF_byte n f FB.out j hj
  go_wp2_with fail
  refine (same_any (some ⟨gx, 0, none⟩) aq (16 + n) (16 + n) (16 + n) caps (sealedF n f) (sealedF n f) _ (Arg.of (X5.lies XB.out)) Z5).mono ?_
  rintro e u6 ⟨rfl, hw⟩
  rw [hw, decide_eq_true rfl]
  clear hw u6 Z5
  have HA5 : Hid (Arg u5 a n f) := A5
  have HR5 : Hid (IRow u5 g .u8 (n + 3) (lentF n f 3)) := R5
  have HX5 : Hid (IRow u5 gx .u8 (16 + n) (sealedF n f)) := X5
  have HB5 : Hid (Below w.heap.size w u5) := B5
  clear A5 R5 X5 B5
  go_wp2_with fail
  refine (same_any none none 0 0 0 0 (fun _ => 0) (fun _ => 0) _ (.inl ⟨rfl, .inl rfl⟩) (.inl ⟨rfl, .inl rfl⟩)).mono ?_
  rintro e u6 ⟨rfl, hw⟩
  rw [hw, decide_eq_true rfl]
  clear hw u6
  go_wp2_with fail
  refine (kept_any g a n C f _ HA5.out (by omega) HR5.out).mono ?_
  rintro e u7 ⟨rfl, K7⟩
  have HR7 : Hid (IRow u7 g .u8 (n + 3) (lentF n f 3)) := HR5.out.below K7
  have HX7 : Hid (IRow u7 gx .u8 (16 + n) (sealedF n f)) := HX5.out.below K7
  have HB7 : Hid (Below w.heap.size w u7) := HB5.out.trans (K7.mono HB5.out.size)
  clear HA5 HR5 HX5 HB5 K7
  go_wp2_with fail
  refine (three_apart w.heap.size u7 ⟨some ⟨gx, 0, none⟩, 16 + n, 16 + n⟩ ⟨none, 0, 0⟩ ⟨some ⟨g, 0, none⟩, n, n + 3⟩ (sealedF n f) (fun _ => 0) (lentF n f 3)
    ⟨Nat.le_refl _, by show 16 + n ≤ 1000000; omega, XB.out, .inr ⟨gx, rfl, by omega, HX7.out⟩⟩
    ⟨Nat.le_refl _, by show 0 ≤ 1000000; omega, fun j hj => absurd hj (Nat.not_lt_zero _), .inl ⟨rfl, rfl⟩⟩
    ⟨by show n ≤ n + 3; omega, by show n + 3 ≤ 1000000; omega, fun j _ => lentF_byte n f 3 FB.out j, .inr ⟨g, rfl, hg, HR7.out⟩⟩
    HB7.out.size
    (fun p hp => by injection hp with hp; subst hp; exact HX7.out.2.2)
    (fun p hp => by cases hp)
    (fun p hp => by injection hp with hp; subst hp; exact HR7.out.2.2)
    (fun p q hp hq => by cases hq)
    (fun p q hp hq => by injection hp with hp; injection hq with hq; subst hp hq; show gx ≠ g; omega)
    (fun p q hp hq => by cases hp)).mono ?_
  rintro e u8 ⟨rfl, K8⟩
  have B8 : Hid (Below w.heap.size w u8) := HB7.out.trans K8
  clear K8 HR7 HX7 HB7
  go_wp2_with fail
  refine (awake_any _).mono ?_
  rintro e u9 ⟨rfl, K9⟩
  go_wp2_with fail
  go_ret
  exact ⟨rfl, B8.out.trans (K9.mono B8.out.size)⟩
set_option maxRecDepth 100000 in
set_option maxHeartbeats 2000000 in
theorem opens_ok (a : Option Addr) (n C : Nat) (f : Nat → Int) (w : World) (h : Arg w a n f) (hC : n ≤ C) (hn : n ≤ 5000) (h16 : 16 ≤ n) (ho : opens n f = true) :
    Calls Try.prog 4 #[.slice a n C] w fun e w' => e = .returned (.bool true) ∧ Below w.heap.size w w' := by
  have e1 : ¬ (5000 : Int) < n := by omega
  have HA : Hid (Arg w a n f) := h
  have FB : Hid (∀ j, j < n → 0 ≤ f j ∧ f j < 256) := h.bytes
  clear h
  go_enter Try.func4, Try.ntmps4
  go_wp2_with fail
  refine (lent_any a n C f _ HA.out (by omega)).mono ?_
  rintro e u1 ⟨g, rfl, hg, R1, K1⟩
  have A1 := HA.out.below K1
  have b1 := R1.2.2
  clear HA
  go_wp2_with fail
  refine (seal_any (some ⟨g, 0, none⟩) n (n + 3) f _ (Arg.of (lent_lies FB.out R1)) (by omega) (by omega)).mono ?_
  rintro e u2 ⟨gx, rfl, hgx, X2, K2⟩
  have A2 := A1.below K2
  have R2 := R1.below K2
  have B2 := K1.trans (K2.mono K1.size)
  have b2 := X2.2.2
  clear A1 R1 K1
  have s2 := K2.size
  clear K2
  go_wp2_with fail
  refine (open_ok (some ⟨g, 0, none⟩) n (n + 3) f _ (Arg.of (lent_lies FB.out R2)) h16 (by omega) (by omega) ho).mono ?_
  rintro e u3 ⟨gy, rfl, hgy, Y3, K3⟩
  have b3 := Y3.2.2
  obtain ⟨m, em⟩ : ∃ m, n - 16 = m := ⟨_, rfl⟩
  rw [em] at Y3 ⊢
  have YB : Hid (∀ j, j < m → 0 ≤ f (16 + j) ∧ f (16 + j) < 256) := fun j hj => FB.out (16 + j) (by omega)
  go_wp2_with fail
  refine (hopen_ok a n C f _ (A2.below K3) h16 hC (by omega) ho).mono ?_
  rintro e u4 ⟨az, capz, rfl, Z4, K4⟩
  rw [em] at Z4 ⊢
  have EM : Hid (n - 16 = m) := em
  have A4 := (A2.below K3).below K4
  have R4 := (R2.below K3).below K4
  have X4 := (X2.below K3).below K4
  have Y4 := Y3.below K4
  have B3 := B2.trans (K3.mono B2.size)
  have B4 := B3.trans (K4.mono B3.size)
  clear A2 R2 X2 B2 B3 K3 K4 Y3 ho em
  have HA4 : Hid (Arg u4 a n f) := A4
  have HR4 : Hid (IRow u4 g .u8 (n + 3) (lentF n f 3)) := R4
  have HX4 : Hid (IRow u4 gx .u8 (16 + n) (sealedF n f)) := X4
  have HB4 : Hid (Below w.heap.size w u4) := B4
  have HY4 : Hid (IRow u4 gy .u8 m (fun j => f (16 + j))) := Y4
  have HZ4 : Hid (Arg u4 az m (fun j => f (16 + j))) := Z4
  clear Y4 Z4
  clear A4 R4 X4 B4
  go_wp2_with fail
  refine (hseal_any a n C f _ HA4.out (by omega)).mono ?_
  rintro e u5 ⟨aq, caps, rfl, Z5, K5⟩
  have A5 := HA4.out.below K5
  have R5 := HR4.out.below K5
  have X5 := HX4.out.below K5
  have B5 := HB4.out.trans (K5.mono HB4.out.size)
  have Y5 := HY4.out.below K5
  have W5 := HZ4.out.below K5
  clear HY4 HZ4
  clear HA4 HR4 HX4 HB4 K5
  have XB : Hid (∀ j, j < 16 + n → 0 ≤ sealedF n f j ∧ sealedF n f j < 256) := fun j hj => sealedF_byte n f FB.out j hj
  go_wp2_with fail
  refine (same_any (some ⟨gx, 0, none⟩) aq (16 + n) (16 + n) (16 + n) caps (sealedF n f) (sealedF n f) _ (Arg.of (X5.lies XB.out)) Z5).mono ?_
  rintro e u6 ⟨rfl, hw⟩
  rw [hw, decide_eq_true rfl]
  clear hw u6 Z5
  have HA5 : Hid (Arg u5 a n f) := A5
  have HR5 : Hid (IRow u5 g .u8 (n + 3) (lentF n f 3)) := R5
  have HX5 : Hid (IRow u5 gx .u8 (16 + n) (sealedF n f)) := X5
  have HB5 : Hid (Below w.heap.size w u5) := B5
  have HY5 : Hid (IRow u5 gy .u8 m (fun j => f (16 + j))) := Y5
  have HW5 : Hid (Arg u5 az m (fun j => f (16 + j))) := W5
  clear Y5 W5
  clear A5 R5 X5 B5
  go_wp2_with fail
  refine (same_any (some ⟨gy, 0, none⟩) az m m m capz (fun j => f (16 + j)) (fun j => f (16 + j)) _ (Arg.of (HY5.out.lies YB.out)) HW5.out).mono ?_
  rintro e u6 ⟨rfl, hw⟩
  rw [hw, decide_eq_true rfl]
  clear hw u6
  go_wp2_with fail
  refine (kept_any g a n C f _ HA5.out (by omega) HR5.out).mono ?_
  rintro e u7 ⟨rfl, K7⟩
  have HR7 : Hid (IRow u7 g .u8 (n + 3) (lentF n f 3)) := HR5.out.below K7
  have HX7 : Hid (IRow u7 gx .u8 (16 + n) (sealedF n f)) := HX5.out.below K7
  have HB7 : Hid (Below w.heap.size w u7) := HB5.out.trans (K7.mono HB5.out.size)
  have HY7 : Hid (IRow u7 gy .u8 m (fun j => f (16 + j))) := HY5.out.below K7
  clear HY5 HW5
  clear HA5 HR5 HX5 HB5 K7
  go_wp2_with fail
  refine (three_apart w.heap.size u7 ⟨some ⟨gx, 0, none⟩, 16 + n, 16 + n⟩ ⟨some ⟨gy, 0, none⟩, m, m⟩ ⟨some ⟨g, 0, none⟩, n, n + 3⟩ (sealedF n f) (fun j => f (16 + j)) (lentF n f 3)
    ⟨Nat.le_refl _, by show 16 + n ≤ 1000000; omega, XB.out, .inr ⟨gx, rfl, by omega, HX7.out⟩⟩
    ⟨Nat.le_refl _, by show m ≤ 1000000; have := EM.out; omega, YB.out, .inr ⟨gy, rfl, by have := s2; omega, HY7.out⟩⟩
    ⟨by show n ≤ n + 3; omega, by show n + 3 ≤ 1000000; omega, fun j _ => lentF_byte n f 3 FB.out j, .inr ⟨g, rfl, hg, HR7.out⟩⟩
    HB7.out.size
    (fun p hp => by injection hp with hp; subst hp; exact HX7.out.2.2)
    (fun p hp => by injection hp with hp; subst hp; exact HY7.out.2.2)
    (fun p hp => by injection hp with hp; subst hp; exact HR7.out.2.2)
    (fun p q hp hq => by injection hp with hp; injection hq with hq; subst hp hq; show gx ≠ gy; omega)
    (fun p q hp hq => by injection hp with hp; injection hq with hq; subst hp hq; show gx ≠ g; omega)
    (fun p q hp hq => by injection hp with hp; injection hq with hq; subst hp hq; show gy ≠ g; omega)).mono ?_
  rintro e u8 ⟨rfl, K8⟩
  have B8 : Hid (Below w.heap.size w u8) := HB7.out.trans K8
  clear K8 HR7 HX7 HB7 HY7
  go_wp2_with fail
  refine (awake_any _).mono ?_
  rintro e u9 ⟨rfl, K9⟩
  go_wp2_with fail
  go_ret
  exact ⟨rfl, B8.out.trans (K9.mono B8.out.size)⟩
theorem opens_all (a : Option Addr) (n C : Nat) (f : Nat → Int) (w : World) (h : Arg w a n f) (hC : n ≤ C) :
    Calls Try.prog 4 #[.slice a n C] w fun e w' => e = .returned (.bool true) ∧ Below w.heap.size w w' := by
  by_cases h1 : 5000 < n
  · exact opens_long a n C w h1
  · by_cases h2 : n < 16
    · exact opens_few a n C f w h (by omega) h2
    · cases h3 : opens n f
      · exact opens_no a n C f w h hC (by omega) (by omega) h3
      · exact opens_ok a n C f w h hC (by omega) (by omega) h3
end Go.Proofs.Ytgcmlnjmfdoomaa
