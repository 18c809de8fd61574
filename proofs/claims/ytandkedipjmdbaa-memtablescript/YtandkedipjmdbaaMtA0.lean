/-
  Walks, not a claim by itself: the script's acts that lay a pair, and those that do nothing. By the verifier.
-/
import Derived.Test.YtandkedipjmdbaaMtLl
namespace Go.Proofs.Ytandkedipjmdbaa
open Go.RowKit
attribute [-go_sem] Builtin.append_
/-- A key or a value of an act: it lies ahead of the tables. -/
def AA (H : Nat) (W : World) (a : Option Addr) (n : Nat) (f : Nat → Int) : Prop := Arg W a n f ∧ n ≤ 300 ∧ (0 < n → ∀ q, a = some q → q.block < H)
theorem AA.below {H : Nat} {W W' : World} {a : Option Addr} {n : Nat} {f : Nat → Int} (h : AA H W a n f) (hB : Below H W W') : AA H W' a n f := by
  refine ⟨?_, h.2.1, h.2.2⟩
  rcases h.1 with q | ⟨h0, b, off, rfl, hl⟩
  · exact .inl q
  · have hb : b < H := h.2.2 h0 _ rfl
    exact .inr ⟨h0, b, off, rfl, fun j hj => (hB.cell (p := ⟨b, off + j, none⟩) hb).trans (hl.1 j hj), hl.2.1, Nat.lt_of_lt_of_le hl.2.2 hB.size⟩
theorem AA.dj {H : Nat} {W W2 : World} {P t r : Nat} {v lv : Value} {qs rs : List PV} {a : Option Addr} {n : Nat} {f : Nat → Int} (h : AA H W a n f) (s : SI H W2 P t r v qs lv rs) : 0 < n → ∀ q, a = some q → q.block ∉ t :: v.ownBlock.toList ∧ q.block ∉ [r] := fun h0 q hq => by
  have hb := h.2.2 h0 q hq
  exact ⟨fun z => by have := s.hT _ z; omega, fun z => by have := s.hR r (by simp); simp at z; omega⟩
theorem StP.from {H : Nat} {W W1 w' : World} {P : Nat} (h : StP H W1 P w') (hB : Below H W W1) : StP H W P w' := by
  obtain ⟨t, r, v, qs, lv, rs, a, b, c⟩ := h
  exact ⟨t, r, v, qs, lv, rs, a, b, hB.trans c⟩
/-- An act as Go has it. -/
def actC (kd nn : Int) (ka va : Option Addr) (n m kC vC : Nat) : List Value := [.int .i64 kd, .int .i64 nn, .slice ka n kC, .slice va m vC]
set_option maxRecDepth 100000 in
set_option maxHeartbeats 4000000 in
theorem act_0 {H : Nat} {W : World} {P t r : Nat} {v lv : Value} {qs rs : List PV} (h : SI H W P t r v qs lv rs) (he : rs.map PV.p = qs.map PV.p) (kd nn : Int) (ka va : Option Addr) (n m kC vC : Nat) (fk fv : Nat → Int) (hk : AA H W ka n fk) (hv : AA H W va m fv) (hd : kd = 0) : Calls Try.prog 13 #[.pointer (some ⟨P, 0, none⟩), .agg (actC kd nn ka va n m kC vC).toArray] W fun e w' => e = .returned (.bool true) ∧ StP H W P w' := by
  have S0 := hidIt h
  have HE := hidIt he
  have HK := hidIt hk
  have HV := hidIt hv
  subst hd
  clear h he hk hv
  go_enter Try.func13, Try.ntmps13
  go_wp2_with (first
    | (refine wpList_box_rec rfl 35 (.tmp 1) rfl (actC 0 nn ka va n m kC vC) rfl W.heap.size rfl ?_; intro W1 R1 B1 z1; have E1 := hidIt (B1.mono S0.out.size); have S1 := hidIt (S0.out.more B1); have K1 := hidIt (HK.out.below E1.out); have V1 := hidIt (HV.out.below E1.out); have a0 := (R1.cel 0 _ rfl).1; have a1 := (R1.cel 1 _ rfl).1; have a2 := (R1.cel 2 _ rfl).1; have a3 := (R1.cel 3 _ rfl).1; have P1 := hidIt R1; have b1 := hidIt B1; clear R1 B1 z1)
    | (go_at_call 34; refine (llay_false S1.out HE.out ka va n m kC vC fk fv K1.out.1 V1.out.1 ⟨Nat.le_trans K1.out.2.1 (by decide), Nat.le_trans V1.out.2.1 (by decide)⟩ ⟨K1.out.dj S1.out, V1.out.dj S1.out⟩).mono ?_; rintro e W2 ⟨rfl, hs⟩; have F2 := hidIt (hs.from E1.out); clear hs a0 a1 a2 a3))
  exact bodyPost_ret (v := .bool true) (by simp [results, Try.results13, go_sem]) rfl ⟨rfl, F2.out⟩
set_option maxRecDepth 100000 in
set_option maxHeartbeats 4000000 in
theorem act_1 {H : Nat} {W : World} {P t r : Nat} {v lv : Value} {qs rs : List PV} (h : SI H W P t r v qs lv rs) (he : rs.map PV.p = qs.map PV.p) (kd nn : Int) (ka va : Option Addr) (n m kC vC : Nat) (fk fv : Nat → Int) (hk : AA H W ka n fk) (hv : AA H W va m fv) (hd : kd = 1) : Calls Try.prog 13 #[.pointer (some ⟨P, 0, none⟩), .agg (actC kd nn ka va n m kC vC).toArray] W fun e w' => e = .returned (.bool true) ∧ StP H W P w' := by
  have S0 := hidIt h
  have HE := hidIt he
  have HK := hidIt hk
  have HV := hidIt hv
  subst hd
  clear h he hk hv
  go_enter Try.func13, Try.ntmps13
  go_wp2_with (first
    | (refine wpList_box_rec rfl 35 (.tmp 1) rfl (actC 1 nn ka va n m kC vC) rfl W.heap.size rfl ?_; intro W1 R1 B1 z1; have E1 := hidIt (B1.mono S0.out.size); have S1 := hidIt (S0.out.more B1); have K1 := hidIt (HK.out.below E1.out); have V1 := hidIt (HV.out.below E1.out); have a0 := (R1.cel 0 _ rfl).1; have a1 := (R1.cel 1 _ rfl).1; have a2 := (R1.cel 2 _ rfl).1; have a3 := (R1.cel 3 _ rfl).1; have P1 := hidIt R1; have b1 := hidIt B1; clear R1 B1 z1)
    | (go_at_call 34; refine (llay_true S1.out HE.out ka va n m kC vC fk fv K1.out.1 V1.out.1 ⟨Nat.le_trans K1.out.2.1 (by decide), Nat.le_trans V1.out.2.1 (by decide)⟩ ⟨K1.out.dj S1.out, V1.out.dj S1.out⟩).mono ?_; rintro e W2 ⟨rfl, hs⟩; have F2 := hidIt (hs.from E1.out); clear hs a0 a1 a2 a3))
  exact bodyPost_ret (v := .bool true) (by simp [results, Try.results13, go_sem]) rfl ⟨rfl, F2.out⟩
set_option maxRecDepth 100000 in
set_option maxHeartbeats 4000000 in
theorem act_else {H : Nat} {W : World} {P t r : Nat} {v lv : Value} {qs rs : List PV} (h : SI H W P t r v qs lv rs) (he : rs.map PV.p = qs.map PV.p) (kd nn : Int) (ka va : Option Addr) (n m kC vC : Nat) (fk fv : Nat → Int) (hk : AA H W ka n fk) (hv : AA H W va m fv) (hd : kd ≠ 0 ∧ kd ≠ 1 ∧ kd ≠ 2 ∧ kd ≠ 3 ∧ kd ≠ 4 ∧ kd ≠ 5) : Calls Try.prog 13 #[.pointer (some ⟨P, 0, none⟩), .agg (actC kd nn ka va n m kC vC).toArray] W fun e w' => e = .returned (.bool true) ∧ StP H W P w' := by
  have S0 := hidIt h
  have HE := hidIt he
  have HK := hidIt hk
  have HV := hidIt hv
  have k0 : (kd == 0) = false := by simpa using hd.1
  have k1 : (kd == 1) = false := by simpa using hd.2.1
  have k2 : (kd == 2) = false := by simpa using hd.2.2.1
  have k3 : (kd == 3) = false := by simpa using hd.2.2.2.1
  have k4 : (kd == 4) = false := by simpa using hd.2.2.2.2.1
  have k5 : (kd == 5) = false := by simpa using hd.2.2.2.2.2
  clear h he hk hv hd
  go_enter Try.func13, Try.ntmps13
  go_wp2_with (refine wpList_box_rec rfl 35 (.tmp 1) rfl (actC kd nn ka va n m kC vC) rfl W.heap.size rfl ?_; intro W1 R1 B1 z1; have E1 := hidIt (B1.mono S0.out.size); have S1 := hidIt (S0.out.more B1); have K1 := hidIt (HK.out.below E1.out); have V1 := hidIt (HV.out.below E1.out); have a0 := (R1.cel 0 _ rfl).1; have a1 := (R1.cel 1 _ rfl).1; have a2 := (R1.cel 2 _ rfl).1; have a3 := (R1.cel 3 _ rfl).1; have P1 := hidIt R1; have b1 := hidIt B1; clear R1 B1 z1)
  exact bodyPost_ret (v := .bool true) (by simp [results, Try.results13, go_sem]) rfl ⟨rfl, t, r, v, qs, lv, rs, S1.out, HE.out, E1.out⟩
end Go.Proofs.Ytandkedipjmdbaa
