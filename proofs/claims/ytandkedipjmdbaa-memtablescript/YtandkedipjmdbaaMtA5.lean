/-
  Walks, not a claim by itself: the script's Put of a number. By the verifier.
-/
import Derived.Test.YtandkedipjmdbaaMtA0
namespace Go.Proofs.Ytandkedipjmdbaa
open Go.RowKit
attribute [-go_sem] Builtin.append_
theorem two_arg (W : World) (x y : Int) (hx : 0 ≤ x ∧ x < 256) (hy : 0 ≤ y ∧ y < 256) : Arg (W.alloc (.cells #[.int .u8 x, .int .u8 y] 5)) (some ⟨W.heap.size, 0, none⟩) 2 (fun j => if j = 0 then x else y) := by
  refine .inr ⟨by decide, W.heap.size, 0, rfl, fun j hj => ?_, fun j hj => ?_, by simp⟩
  · rw [cell_of_row _ _ _ _ _ _ (heap_alloc_new _ _), Nat.zero_add]
    have : j = 0 ∨ j = 1 := by omega
    rcases this with rfl | rfl <;> rfl
  · by_cases e : j = 0
    · simp only [e, if_true]; exact hx
    · simp only [e, if_false]; exact hy
set_option maxRecDepth 100000 in
set_option maxHeartbeats 4000000 in
theorem act_5 {H : Nat} {W : World} {P t r : Nat} {v lv : Value} {qs rs : List PV} (h : SI H W P t r v qs lv rs) (he : rs.map PV.p = qs.map PV.p) (kd nn : Int) (ka va : Option Addr) (n m kC vC : Nat) (fk fv : Nat → Int) (hk : AA H W ka n fk) (hv : AA H W va m fv) (hd : kd = 5) : Calls Try.prog 13 #[.pointer (some ⟨P, 0, none⟩), .agg (actC kd nn ka va n m kC vC).toArray] W fun e w' => e = .returned (.bool true) ∧ StP H W P w' := by
  have S0 := hidIt h
  have HE := hidIt he
  have HK := hidIt hk
  have HV := hidIt hv
  subst hd
  clear h he hk hv
  go_enter Try.func13, Try.ntmps13
  go_wp2_with (first
    | (refine wpList_box_rec rfl 35 (.tmp 1) rfl (actC 5 nn ka va n m kC vC) rfl W.heap.size rfl ?_; intro W1 R1 B1 z1; have E1 := hidIt (B1.mono S0.out.size); have S1 := hidIt (S0.out.more B1); have K1 := hidIt (HK.out.below E1.out); have V1 := hidIt (HV.out.below E1.out); have a0 := (R1.cel 0 _ rfl).1; have a1 := (R1.cel 1 _ rfl).1; have a2 := (R1.cel 2 _ rfl).1; have a3 := (R1.cel 3 _ rfl).1; have P1 := hidIt R1; have b1 := hidIt B1; clear R1 B1 z1; have A2 := hidIt (show Below W1.heap.size W1 (W1.alloc (.cells #[.int .u8 (nn % 256), .int .u8 (nn / 256 % 256)] 5)) from (Below.refl _ _).alloc (Nat.le_refl _) _); have d3 := ((P1.out.below A2.out).cel 3 _ rfl).1; clear a3)
    | (go_at_call 34; refine (llay_false (S1.out.more A2.out) HE.out (some ⟨W1.heap.size, 0, none⟩) va 2 m 2 vC (fun j => if j = 0 then nn % 256 else nn / 256 % 256) fv (two_arg W1 _ _ (by omega) (by omega)) (V1.out.below (A2.out.mono S1.out.size)).1 ⟨by decide, Nat.le_trans V1.out.2.1 (by decide)⟩ ⟨fun _ q hq => by injection hq with hq; subst hq; exact ⟨fun z => by have := S1.out.tab.lt _ z; simp at this, fun z => by have := S1.out.ref.lt r (by simp); simp at z; omega⟩, V1.out.dj S1.out⟩).mono ?_; rintro e W2 ⟨rfl, hs⟩; have F2 := hidIt (hs.from (E1.out.trans (A2.out.mono S1.out.size))); clear hs a0 a1 a2 d3))
  exact bodyPost_ret (v := .bool true) (by simp [results, Try.results13, go_sem]) rfl ⟨rfl, F2.out⟩
end Go.Proofs.Ytandkedipjmdbaa
