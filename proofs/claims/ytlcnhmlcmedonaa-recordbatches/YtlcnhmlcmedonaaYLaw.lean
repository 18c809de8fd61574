/-
  Walks, not a claim by itself: RecordBatches. By the verifier.
-/
import Derived.Test.YtlcnhmlcmedonaaYRd
import Derived.Test.YtlcnhmlcmedonaaRAwake
import Derived.Test.YtlcnhmlcmedonaaBLent
namespace Go.Proofs.Ytlcnhmlcmedonaa
open Go.RowKit
theorem lst_lo {B : Nat} {W : World} {L : Lst} {F : Nat → Int} (h : L.ok B W F) : ∀ q, L.a = some q → B ≤ q.block := by
  intro q hq
  rcases h.2.2.2 with ⟨h, _⟩ | ⟨g, h, hB, _⟩
  · rw [h] at hq; cases hq
  · rw [h] at hq; cases hq; exact hB
theorem lst_weak {B B' : Nat} {W : World} {L : Lst} {F : Nat → Int} (h : L.ok B W F) (hb : B' ≤ B) : L.ok B' W F := by
  refine ⟨h.1, h.2.1, h.2.2.1, ?_⟩
  rcases h.2.2.2 with h | ⟨g, h, hB, hR⟩
  · exact .inl h
  · exact .inr ⟨g, h, Nat.le_trans hb hB, hR⟩
theorem lst_below {B : Nat} {W W' : World} {L : Lst} {F : Nat → Int} (h : L.ok B W F) (hb : Below W.heap.size W W') : L.ok B W' F := by
  refine ⟨h.1, h.2.1, h.2.2.1, ?_⟩
  rcases h.2.2.2 with h | ⟨g, h, hB, hR⟩
  · exact .inl h
  · exact .inr ⟨g, h, hB, hR.below hb⟩
theorem lst_arg {B : Nat} {W : World} {a : Option Addr} {n : Nat} {F : Nat → Int} (h : Lst.ok B W ⟨a, n, n⟩ F) : Arg W a n F := by
  rcases h.2.2.2 with ⟨h1, h2⟩ | ⟨g, h1, _, hR⟩
  · exact .inl ⟨h2, .inl h1⟩
  · have e : a = some ⟨g, 0, none⟩ := h1
    rw [e]
    exact Arg.of (hR.lies h.2.2.1)
theorem lent_lies {w W : World} {a : Option Addr} {g n : Nat} {f : Nat → Int} (h : Arg w a n f) (hR : IRow W g .u8 (n + 3) (lentF n f 3)) : Lies W g 0 n f :=
  ⟨fun j hj => by rw [Nat.zero_add, hR.1 j (by omega), lentF_low n f 3 j hj], h.bytes, hR.2.2⟩
theorem own0 (T : TypeId) (w : World) (acc : Nat → Fld) : (w.alloc (.cells #[] T)).ownsRow w.heap.size T 19 (.slice (some ⟨w.heap.size, 0, none⟩) 0 0) 0 (recsL acc 0) := by
  have := World.ownsRow_lit (e := T) (size := 19) (base := w.heap.size) w #[] 0 (Nat.le_refl _) (by unfold maxLen; omega) rfl
  simpa [recsL] using this
theorem rcnt_le (n : Nat) : rcnt n ≤ 1000 := by
  unfold rcnt
  split
  · omega
  · split
    · omega
    · omega
set_option maxRecDepth 100000 in
set_option maxHeartbeats 400000 in
theorem batches_long (a0 a1 a2 : Option Addr) (n0 C0 n1 C1 n2 C2 : Nat) (w : World) (hl : 20 < n0 ∨ 20 < n1 ∨ 3000 < n2) :
    Calls Try.prog 4 #[.slice a0 n0 C0, .slice a1 n1 C1, .slice a2 n2 C2] w fun e w' => e = .returned (.bool true) ∧ Below w.heap.size w w' := by
  by_cases h0 : 20 < n0
  · have e0 : (20 : Int) < n0 := by omega
    clear hl
    go_enter Try.func4, Try.ntmps4
    go_wp2_with fail
    go_ret
    exact ⟨rfl, Below.refl _ _⟩
  · have e0 : ¬ (20 : Int) < n0 := by omega
    by_cases h1 : 20 < n1
    · have e1 : (20 : Int) < n1 := by omega
      clear hl
      go_enter Try.func4, Try.ntmps4
      go_wp2_with fail
      go_ret
      exact ⟨rfl, Below.refl _ _⟩
    · have e1 : ¬ (20 : Int) < n1 := by omega
      have e2 : (3000 : Int) < n2 := by omega
      clear hl
      go_enter Try.func4, Try.ntmps4
      go_wp2_with fail
      go_ret
      exact ⟨rfl, Below.refl _ _⟩
set_option maxRecDepth 100000 in
set_option maxHeartbeats 1000000 in
theorem batches_short (a0 a1 a2 : Option Addr) (n0 C0 n1 C1 n2 C2 : Nat) (acc tra : Nat → Fld) (f : Nat → Int) (w : World) (h0 : RArg w a0 n0 acc) (h1 : RArg w a1 n1 tra) (h2 : Arg w a2 n2 f) (hC : n2 ≤ C2) (e0 : n0 ≤ 20) (e1 : n1 ≤ 20) (e2 : n2 ≤ 3000) :
    Calls Try.prog 4 #[.slice a0 n0 C0, .slice a1 n1 C1, .slice a2 n2 C2] w fun e w' => e = .returned (.bool true) ∧ Below w.heap.size w w' := by
  have H0 : Hid (RArg w a0 n0 acc) := h0
  have H1 : Hid (RArg w a1 n1 tra) := h1
  have H2 : Hid (Arg w a2 n2 f) := h2
  clear h0 h1 h2
  have g0' : ¬ (20 : Int) < n0 := by omega
  have g1' : ¬ (20 : Int) < n1 := by omega
  have g2' : ¬ (3000 : Int) < n2 := by omega
  have tokAccount : True := trivial
  have tokTransfer : True := trivial
  have rcle := rcnt_le n2
  go_enter Try.func4, Try.ntmps4
  go_wp2_with (first
    | (go_at_call 13; refine (lent_any a2 n2 C2 f _ H2.out (by omega)).mono ?_; rintro e W1 ⟨g, rfl, hg, hG, K1⟩
       have EW1 : Hid (Below w.heap.size w W1) := K1
       have GW1 : Hid (IRow W1 g .u8 (n2 + 3) (lentF n2 f 3)) := hG
       have g0 : w.heap.size ≤ g := hg
       clear hg hG K1)
    | (have _t := tokAccount; clear _t; refine wpList_step_go rfl (bs0Account_run rfl) ?_
       obtain ⟨vW2, W2, hrW2, hO, hB⟩ := appAccount (W1.alloc (.cells #[] 28)) W1.heap.size 0 n0 C0 (.slice (some ⟨W1.heap.size, 0, none⟩) 0 0) a0 acc acc (own0 28 W1 acc) ((H0.out.below EW1.out).below ((Below.refl _ _).alloc (Nat.le_refl _) _)) (by omega) (by simp) (fun i _ => by rw [Nat.zero_add])
       rw [Nat.zero_add] at hO
       obtain ⟨p2, c2, rfl, hA⟩ := rarg_of_own hO (rarg_wf H0.out)
       have K : Below W1.heap.size W1 W2 := ((Below.refl _ _).alloc (Nat.le_refl _) _).trans hB
       have EW2 : Hid (Below w.heap.size w W2) := EW1.out.trans (K.mono EW1.out.size)
       have GW2 : Hid (IRow W2 g .u8 (n2 + 3) (lentF n2 f 3)) := GW1.out.below K
       clear EW1 GW1
       have AW2 : Hid (RArg W2 p2 n0 acc) := hA
       clear hO hB hA K tokAccount)
    | (at_builtin; refine wpList_append_go rfl (.tmp 41) (.tmp 42) 39 39 rfl _ _ rfl rfl hrW2 ?_; clear hrW2)
    | (have _t := tokTransfer; clear _t; refine wpList_step_go rfl (bs0Transfer_run rfl) ?_
       obtain ⟨vW3, W3, hrW3, hO, hB⟩ := appTransfer (W2.alloc (.cells #[] 30)) W2.heap.size 0 n1 C1 (.slice (some ⟨W2.heap.size, 0, none⟩) 0 0) a1 tra tra (own0 30 W2 tra) ((H1.out.below EW2.out).below ((Below.refl _ _).alloc (Nat.le_refl _) _)) (by omega) (by simp) (fun i _ => by rw [Nat.zero_add])
       rw [Nat.zero_add] at hO
       obtain ⟨p3, c3, rfl, hA⟩ := rarg_of_own hO (rarg_wf H1.out)
       have K : Below W2.heap.size W2 W3 := ((Below.refl _ _).alloc (Nat.le_refl _) _).trans hB
       have EW3 : Hid (Below w.heap.size w W3) := EW2.out.trans (K.mono EW2.out.size)
       have GW3 : Hid (IRow W3 g .u8 (n2 + 3) (lentF n2 f 3)) := GW2.out.below K
       have AW3 : Hid (RArg W3 p2 n0 acc) := AW2.out.below K
       clear EW2 GW2 AW2
       have BW3 : Hid (RArg W3 p3 n1 tra) := hA
       clear hO hB hA K tokTransfer)
    | (at_builtin; refine wpList_append_go rfl (.tmp 44) (.tmp 45) 40 40 rfl _ _ rfl rfl hrW3 ?_; clear hrW3)
    | (go_at_call 14; refine (Accounts_room p2 n0 c2 acc _ AW3.out).mono ?_; rintro e W4 ⟨x4, rfl, hL, hlt, K⟩
       have x4lo : Hid (∀ q, x4 = some q → W3.heap.size ≤ q.block ∧ q.block < W4.heap.size) := fun q hq => ⟨lst_lo hL q hq, hlt q hq⟩
       have hL2 : Lst.ok w.heap.size W4 ⟨x4, bsize n0, bsize n0⟩ (batF acc) := lst_weak hL EW3.out.size
       have gx : Hid (∀ q, x4 = some q → g < q.block) := fun q hq => by have := lst_lo hL q hq; have := GW3.out.2.2; omega
       have EW4 : Hid (Below w.heap.size w W4) := EW3.out.trans (K.mono EW3.out.size)
       have GW4 : Hid (IRow W4 g .u8 (n2 + 3) (lentF n2 f 3)) := GW3.out.below K
       have AW4 : Hid (RArg W4 p2 n0 acc) := AW3.out.below K
       have BW4 : Hid (RArg W4 p3 n1 tra) := BW3.out.below K
       clear EW3 GW3 AW3 BW3
       have XW4 : Hid (Lst.ok w.heap.size W4 ⟨x4, bsize n0, bsize n0⟩ (batF acc)) := hL2
       have XlW4 : Hid (∀ q, x4 = some q → q.block < W4.heap.size) := hlt
       clear hL hL2 hlt K x4lo)
    | (go_at_call 15; refine (qAccounts_bytes a0 n0 C0 acc _ (H0.out.below EW4.out)).mono ?_; rintro e W5 ⟨y5, k5, rfl, hA, K⟩
       have EW5 : Hid (Below w.heap.size w W5) := EW4.out.trans (K.mono EW4.out.size)
       have GW5 : Hid (IRow W5 g .u8 (n2 + 3) (lentF n2 f 3)) := GW4.out.below K
       have AW5 : Hid (RArg W5 p2 n0 acc) := AW4.out.below K
       have BW5 : Hid (RArg W5 p3 n1 tra) := BW4.out.below K
       have XW5 : Hid (Lst.ok w.heap.size W5 ⟨x4, bsize n0, bsize n0⟩ (batF acc)) := lst_below XW4.out K
       have XlW5 : Hid (∀ q, x4 = some q → q.block < W5.heap.size) := fun q hq => Nat.lt_of_lt_of_le (XlW4.out q hq) K.size
       clear EW4 GW4 AW4 BW4 XW4 XlW4
       have YW5 : Hid (Arg W5 y5 (bsize n0) (batF acc)) := hA
       clear hA K)
    | (go_at_call 16; refine (Transfers_room p3 n1 c3 tra _ BW5.out).mono ?_; rintro e W6 ⟨x6, rfl, hL, hlt, K⟩
       have x6lo : Hid (∀ q, x6 = some q → W5.heap.size ≤ q.block ∧ q.block < W6.heap.size) := fun q hq => ⟨lst_lo hL q hq, hlt q hq⟩
       have hL2 : Lst.ok w.heap.size W6 ⟨x6, bsize n1, bsize n1⟩ (batF tra) := lst_weak hL EW5.out.size
       have gp : Hid (∀ q, x6 = some q → g < q.block) := fun q hq => by have := lst_lo hL q hq; have := GW5.out.2.2; omega
       have xp : Hid (∀ q r, x4 = some q → x6 = some r → q.block < r.block) := fun q r hq hr => by have := lst_lo hL r hr; have := XlW5.out q hq; omega
       have EW6 : Hid (Below w.heap.size w W6) := EW5.out.trans (K.mono EW5.out.size)
       have GW6 : Hid (IRow W6 g .u8 (n2 + 3) (lentF n2 f 3)) := GW5.out.below K
       have AW6 : Hid (RArg W6 p2 n0 acc) := AW5.out.below K
       have BW6 : Hid (RArg W6 p3 n1 tra) := BW5.out.below K
       have XW6 : Hid (Lst.ok w.heap.size W6 ⟨x4, bsize n0, bsize n0⟩ (batF acc)) := lst_below XW5.out K
       have XlW6 : Hid (∀ q, x4 = some q → q.block < W6.heap.size) := fun q hq => Nat.lt_of_lt_of_le (XlW5.out q hq) K.size
       have YW6 : Hid (Arg W6 y5 (bsize n0) (batF acc)) := YW5.out.below K
       clear EW5 GW5 AW5 BW5 XW5 XlW5 YW5
       have PW6 : Hid (Lst.ok w.heap.size W6 ⟨x6, bsize n1, bsize n1⟩ (batF tra)) := hL2
       have PlW6 : Hid (∀ q, x6 = some q → q.block < W6.heap.size) := hlt
       clear hL hL2 hlt K x6lo)
    | (go_at_call 17; refine (qTransfers_bytes a1 n1 C1 tra _ (H1.out.below EW6.out)).mono ?_; rintro e W7 ⟨y7, k7, rfl, hA, K⟩
       have EW7 : Hid (Below w.heap.size w W7) := EW6.out.trans (K.mono EW6.out.size)
       have GW7 : Hid (IRow W7 g .u8 (n2 + 3) (lentF n2 f 3)) := GW6.out.below K
       have AW7 : Hid (RArg W7 p2 n0 acc) := AW6.out.below K
       have BW7 : Hid (RArg W7 p3 n1 tra) := BW6.out.below K
       have XW7 : Hid (Lst.ok w.heap.size W7 ⟨x4, bsize n0, bsize n0⟩ (batF acc)) := lst_below XW6.out K
       have XlW7 : Hid (∀ q, x4 = some q → q.block < W7.heap.size) := fun q hq => Nat.lt_of_lt_of_le (XlW6.out q hq) K.size
       have YW7 : Hid (Arg W7 y5 (bsize n0) (batF acc)) := YW6.out.below K
       have PW7 : Hid (Lst.ok w.heap.size W7 ⟨x6, bsize n1, bsize n1⟩ (batF tra)) := lst_below PW6.out K
       have PlW7 : Hid (∀ q, x6 = some q → q.block < W7.heap.size) := fun q hq => Nat.lt_of_lt_of_le (PlW6.out q hq) K.size
       clear EW6 GW6 AW6 BW6 XW6 XlW6 YW6 PW6 PlW6
       have QW7 : Hid (Arg W7 y7 (bsize n1) (batF tra)) := hA
       clear hA K)
    | (have _q := YW7; clear _q; go_at_call 8; refine (same_any x4 y5 (bsize n0) (bsize n0) (bsize n0) k5 (batF acc) (batF acc) _ (lst_arg XW7.out) YW7.out).mono ?_; rintro e V ⟨rfl, hV⟩; rw [hV, decide_eq_true rfl]; clear hV V YW7)
    | (have _q := QW7; clear _q; go_at_call 8; refine (same_any x6 y7 (bsize n1) (bsize n1) (bsize n1) k7 (batF tra) (batF tra) _ (lst_arg PW7.out) QW7.out).mono ?_; rintro e V ⟨rfl, hV⟩; rw [hV, decide_eq_true rfl]; clear hV V QW7)
    | (have _q := AW7; clear _q; go_at_call 18; refine (sameAccounts_any p2 a0 n0 c2 C0 acc _ AW7.out (H0.out.below EW7.out) (by omega)).mono ?_; rintro e W8 ⟨rfl, K⟩
       have EW8 : Hid (Below w.heap.size w W8) := EW7.out.trans (K.mono EW7.out.size)
       have GW8 : Hid (IRow W8 g .u8 (n2 + 3) (lentF n2 f 3)) := GW7.out.below K
       have BW8 : Hid (RArg W8 p3 n1 tra) := BW7.out.below K
       have XW8 : Hid (Lst.ok w.heap.size W8 ⟨x4, bsize n0, bsize n0⟩ (batF acc)) := lst_below XW7.out K
       have XlW8 : Hid (∀ q, x4 = some q → q.block < W8.heap.size) := fun q hq => Nat.lt_of_lt_of_le (XlW7.out q hq) K.size
       have PW8 : Hid (Lst.ok w.heap.size W8 ⟨x6, bsize n1, bsize n1⟩ (batF tra)) := lst_below PW7.out K
       have PlW8 : Hid (∀ q, x6 = some q → q.block < W8.heap.size) := fun q hq => Nat.lt_of_lt_of_le (PlW7.out q hq) K.size
       clear EW7 GW7 BW7 XW7 XlW7 PW7 PlW7
       clear K AW7)
    | (have _q := BW8; clear _q; go_at_call 19; refine (sameTransfers_any p3 a1 n1 c3 C1 tra _ BW8.out (H1.out.below EW8.out) (by omega)).mono ?_; rintro e W9 ⟨rfl, K⟩
       have EW9 : Hid (Below w.heap.size w W9) := EW8.out.trans (K.mono EW8.out.size)
       have GW9 : Hid (IRow W9 g .u8 (n2 + 3) (lentF n2 f 3)) := GW8.out.below K
       have XW9 : Hid (Lst.ok w.heap.size W9 ⟨x4, bsize n0, bsize n0⟩ (batF acc)) := lst_below XW8.out K
       have XlW9 : Hid (∀ q, x4 = some q → q.block < W9.heap.size) := fun q hq => Nat.lt_of_lt_of_le (XlW8.out q hq) K.size
       have PW9 : Hid (Lst.ok w.heap.size W9 ⟨x6, bsize n1, bsize n1⟩ (batF tra)) := lst_below PW8.out K
       have PlW9 : Hid (∀ q, x6 = some q → q.block < W9.heap.size) := fun q hq => Nat.lt_of_lt_of_le (PlW8.out q hq) K.size
       clear EW8 GW8 XW8 XlW8 PW8 PlW8
       clear K BW8)
    | (go_at_call 20; refine (pReadAccounts_any g n2 (n2 + 3) f _ (lent_lies H2.out GW9.out) (by omega) (by omega)).mono ?_; rintro e W10 ⟨u10, k10, rfl, hA, K⟩
       have EW10 : Hid (Below w.heap.size w W10) := EW9.out.trans (K.mono EW9.out.size)
       have GW10 : Hid (IRow W10 g .u8 (n2 + 3) (lentF n2 f 3)) := GW9.out.below K
       have XW10 : Hid (Lst.ok w.heap.size W10 ⟨x4, bsize n0, bsize n0⟩ (batF acc)) := lst_below XW9.out K
       have XlW10 : Hid (∀ q, x4 = some q → q.block < W10.heap.size) := fun q hq => Nat.lt_of_lt_of_le (XlW9.out q hq) K.size
       have PW10 : Hid (Lst.ok w.heap.size W10 ⟨x6, bsize n1, bsize n1⟩ (batF tra)) := lst_below PW9.out K
       have PlW10 : Hid (∀ q, x6 = some q → q.block < W10.heap.size) := fun q hq => Nat.lt_of_lt_of_le (PlW9.out q hq) K.size
       clear EW9 GW9 XW9 XlW9 PW9 PlW9
       have UW10 : Hid (RArg W10 u10 (rcnt n2) (fun i => recOf fun t => f (i * 128 + t))) := hA
       clear hA K)
    | (go_at_call 21; refine (qReadAccounts_any a2 n2 C2 f _ (H2.out.below EW10.out) hC (by omega)).mono ?_; rintro e W11 ⟨v11, k11, rfl, hA, K⟩
       have EW11 : Hid (Below w.heap.size w W11) := EW10.out.trans (K.mono EW10.out.size)
       have GW11 : Hid (IRow W11 g .u8 (n2 + 3) (lentF n2 f 3)) := GW10.out.below K
       have XW11 : Hid (Lst.ok w.heap.size W11 ⟨x4, bsize n0, bsize n0⟩ (batF acc)) := lst_below XW10.out K
       have XlW11 : Hid (∀ q, x4 = some q → q.block < W11.heap.size) := fun q hq => Nat.lt_of_lt_of_le (XlW10.out q hq) K.size
       have PW11 : Hid (Lst.ok w.heap.size W11 ⟨x6, bsize n1, bsize n1⟩ (batF tra)) := lst_below PW10.out K
       have PlW11 : Hid (∀ q, x6 = some q → q.block < W11.heap.size) := fun q hq => Nat.lt_of_lt_of_le (PlW10.out q hq) K.size
       have UW11 : Hid (RArg W11 u10 (rcnt n2) (fun i => recOf fun t => f (i * 128 + t))) := UW10.out.below K
       clear EW10 GW10 XW10 XlW10 PW10 PlW10 UW10
       have VW11 : Hid (RArg W11 v11 (rcnt n2) (fun i => recOf fun t => f (i * 128 + t))) := hA
       clear hA K)
    | (go_at_call 22; refine (pReadTransfers_any g n2 (n2 + 3) f _ (lent_lies H2.out GW11.out) (by omega) (by omega)).mono ?_; rintro e W12 ⟨r12, k12, rfl, hA, K⟩
       have EW12 : Hid (Below w.heap.size w W12) := EW11.out.trans (K.mono EW11.out.size)
       have GW12 : Hid (IRow W12 g .u8 (n2 + 3) (lentF n2 f 3)) := GW11.out.below K
       have XW12 : Hid (Lst.ok w.heap.size W12 ⟨x4, bsize n0, bsize n0⟩ (batF acc)) := lst_below XW11.out K
       have XlW12 : Hid (∀ q, x4 = some q → q.block < W12.heap.size) := fun q hq => Nat.lt_of_lt_of_le (XlW11.out q hq) K.size
       have PW12 : Hid (Lst.ok w.heap.size W12 ⟨x6, bsize n1, bsize n1⟩ (batF tra)) := lst_below PW11.out K
       have PlW12 : Hid (∀ q, x6 = some q → q.block < W12.heap.size) := fun q hq => Nat.lt_of_lt_of_le (PlW11.out q hq) K.size
       have UW12 : Hid (RArg W12 u10 (rcnt n2) (fun i => recOf fun t => f (i * 128 + t))) := UW11.out.below K
       have VW12 : Hid (RArg W12 v11 (rcnt n2) (fun i => recOf fun t => f (i * 128 + t))) := VW11.out.below K
       clear EW11 GW11 XW11 XlW11 PW11 PlW11 UW11 VW11
       have RW12 : Hid (RArg W12 r12 (rcnt n2) (fun i => recOf fun t => f (i * 128 + t))) := hA
       clear hA K)
    | (go_at_call 23; refine (qReadTransfers_any a2 n2 C2 f _ (H2.out.below EW12.out) hC (by omega)).mono ?_; rintro e W13 ⟨s13, k13, rfl, hA, K⟩
       have EW13 : Hid (Below w.heap.size w W13) := EW12.out.trans (K.mono EW12.out.size)
       have GW13 : Hid (IRow W13 g .u8 (n2 + 3) (lentF n2 f 3)) := GW12.out.below K
       have XW13 : Hid (Lst.ok w.heap.size W13 ⟨x4, bsize n0, bsize n0⟩ (batF acc)) := lst_below XW12.out K
       have XlW13 : Hid (∀ q, x4 = some q → q.block < W13.heap.size) := fun q hq => Nat.lt_of_lt_of_le (XlW12.out q hq) K.size
       have PW13 : Hid (Lst.ok w.heap.size W13 ⟨x6, bsize n1, bsize n1⟩ (batF tra)) := lst_below PW12.out K
       have PlW13 : Hid (∀ q, x6 = some q → q.block < W13.heap.size) := fun q hq => Nat.lt_of_lt_of_le (PlW12.out q hq) K.size
       have UW13 : Hid (RArg W13 u10 (rcnt n2) (fun i => recOf fun t => f (i * 128 + t))) := UW12.out.below K
       have VW13 : Hid (RArg W13 v11 (rcnt n2) (fun i => recOf fun t => f (i * 128 + t))) := VW12.out.below K
       have RW13 : Hid (RArg W13 r12 (rcnt n2) (fun i => recOf fun t => f (i * 128 + t))) := RW12.out.below K
       clear EW12 GW12 XW12 XlW12 PW12 PlW12 UW12 VW12 RW12
       have SW13 : Hid (RArg W13 s13 (rcnt n2) (fun i => recOf fun t => f (i * 128 + t))) := hA
       clear hA K)
    | (have _q := UW13; clear _q; go_at_call 18; refine (sameAccounts_any u10 v11 (rcnt n2) k10 k11 (fun i => recOf fun t => f (i * 128 + t)) _ UW13.out VW13.out rcle).mono ?_; rintro e W14 ⟨rfl, K⟩
       have EW14 : Hid (Below w.heap.size w W14) := EW13.out.trans (K.mono EW13.out.size)
       have GW14 : Hid (IRow W14 g .u8 (n2 + 3) (lentF n2 f 3)) := GW13.out.below K
       have XW14 : Hid (Lst.ok w.heap.size W14 ⟨x4, bsize n0, bsize n0⟩ (batF acc)) := lst_below XW13.out K
       have XlW14 : Hid (∀ q, x4 = some q → q.block < W14.heap.size) := fun q hq => Nat.lt_of_lt_of_le (XlW13.out q hq) K.size
       have PW14 : Hid (Lst.ok w.heap.size W14 ⟨x6, bsize n1, bsize n1⟩ (batF tra)) := lst_below PW13.out K
       have PlW14 : Hid (∀ q, x6 = some q → q.block < W14.heap.size) := fun q hq => Nat.lt_of_lt_of_le (PlW13.out q hq) K.size
       have RW14 : Hid (RArg W14 r12 (rcnt n2) (fun i => recOf fun t => f (i * 128 + t))) := RW13.out.below K
       have SW14 : Hid (RArg W14 s13 (rcnt n2) (fun i => recOf fun t => f (i * 128 + t))) := SW13.out.below K
       clear EW13 GW13 XW13 XlW13 PW13 PlW13 RW13 SW13
       clear K UW13 VW13)
    | (have _q := RW14; clear _q; go_at_call 19; refine (sameTransfers_any r12 s13 (rcnt n2) k12 k13 (fun i => recOf fun t => f (i * 128 + t)) _ RW14.out SW14.out rcle).mono ?_; rintro e W15 ⟨rfl, K⟩
       have EW15 : Hid (Below w.heap.size w W15) := EW14.out.trans (K.mono EW14.out.size)
       have GW15 : Hid (IRow W15 g .u8 (n2 + 3) (lentF n2 f 3)) := GW14.out.below K
       have XW15 : Hid (Lst.ok w.heap.size W15 ⟨x4, bsize n0, bsize n0⟩ (batF acc)) := lst_below XW14.out K
       have XlW15 : Hid (∀ q, x4 = some q → q.block < W15.heap.size) := fun q hq => Nat.lt_of_lt_of_le (XlW14.out q hq) K.size
       have PW15 : Hid (Lst.ok w.heap.size W15 ⟨x6, bsize n1, bsize n1⟩ (batF tra)) := lst_below PW14.out K
       have PlW15 : Hid (∀ q, x6 = some q → q.block < W15.heap.size) := fun q hq => Nat.lt_of_lt_of_le (PlW14.out q hq) K.size
       clear EW14 GW14 XW14 XlW14 PW14 PlW14
       clear K RW14 SW14)
    | (go_at_call 24; refine (kept_any g a2 n2 C2 f _ (H2.out.below EW15.out) (by omega) GW15.out).mono ?_; rintro e W16 ⟨rfl, K⟩
       have EW16 : Hid (Below w.heap.size w W16) := EW15.out.trans (K.mono EW15.out.size)
       have GW16 : Hid (IRow W16 g .u8 (n2 + 3) (lentF n2 f 3)) := GW15.out.below K
       have XW16 : Hid (Lst.ok w.heap.size W16 ⟨x4, bsize n0, bsize n0⟩ (batF acc)) := lst_below XW15.out K
       have XlW16 : Hid (∀ q, x4 = some q → q.block < W16.heap.size) := fun q hq => Nat.lt_of_lt_of_le (XlW15.out q hq) K.size
       have PW16 : Hid (Lst.ok w.heap.size W16 ⟨x6, bsize n1, bsize n1⟩ (batF tra)) := lst_below PW15.out K
       have PlW16 : Hid (∀ q, x6 = some q → q.block < W16.heap.size) := fun q hq => Nat.lt_of_lt_of_le (PlW15.out q hq) K.size
       clear EW15 GW15 XW15 XlW15 PW15 PlW15
       clear K)
    | (go_at_call 11; refine (three_apart w.heap.size W16 ⟨x4, bsize n0, bsize n0⟩ ⟨x6, bsize n1, bsize n1⟩ ⟨some ⟨g, 0, none⟩, n2, n2 + 3⟩ (batF acc) (batF tra) (lentF n2 f 3) XW16.out PW16.out
          ⟨by show n2 ≤ n2 + 3; omega, by show n2 + 3 ≤ 1000000; omega, fun j _ => lentF_byte n2 f 3 H2.out.bytes j, .inr ⟨g, rfl, g0, GW16.out⟩⟩ EW16.out.size XlW16.out PlW16.out (fun p hp => by cases hp; exact GW16.out.2.2)
          (fun p q hp hq => Nat.ne_of_lt (xp.out p q hp hq)) (fun p q hp hq => by cases hq; exact Nat.ne_of_gt (gx.out p hp)) (fun p q hp hq => by cases hq; exact Nat.ne_of_gt (gp.out p hp))).mono ?_
       rintro e W17 ⟨rfl, K⟩
       have EW17 : Hid (Below w.heap.size w W17) := EW16.out.trans K
       clear K)
    | (go_at_call 12; refine (awake_any _).mono ?_; rintro e W18 ⟨rfl, K⟩
       have EW18 : Hid (Below w.heap.size w W18) := EW17.out.trans (K.mono EW17.out.size)
       clear K))
  go_ret
  exact ⟨rfl, EW18.out⟩
end Go.Proofs.Ytlcnhmlcmedonaa
