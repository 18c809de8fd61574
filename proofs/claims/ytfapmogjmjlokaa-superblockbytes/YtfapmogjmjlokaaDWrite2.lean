/-
  Walks, not a claim by itself: Write that is refused. By the verifier.
-/
import Derived.Test.YtfapmogjmjlokaaDWrite
namespace Go.Proofs.Ytfapmogjmjlokaa
open Go.RowKit Go.Maps
set_option maxRecDepth 100000 in
theorem write_range (W : World) (d s m : Nat) (D : Dsk) (l : Int) (o : Bool) (x : Int) (p : Option Addr) (c C : Nat) (h : DiskAt W d s m D) (hf : FuseIs W D.fz l o) (hu : D.up o = true) (hc : 1 ≤ c) (hc8 : c ≤ 8) (hx : x < 9223372036854775808) (hh : hasB D.N x c = false) :
    Calls Try.prog 62 #[.pointer (some ⟨d, 0, none⟩), .int .i64 x, .slice p (c * 256) C] W fun e w' => e = .returned (.int .i64 5) ∧ Below W.heap.size W w' := by
  have HD : Hid (DiskAt (boxW W d x (.slice p (c * 256) C)) d s m D) := h.below (boxW_below _ _ _ _)
  have HF : Hid (FuseIs (boxW W d x (.slice p (c * 256) C)) D.fz l o) := hf.below (boxW_below _ _ _ _)
  have BB : Hid (Below W.heap.size W (boxW W d x (.slice p (c * 256) C))) := boxW_below _ _ _ _
  have HU : Hid (D.up o = true) := hu
  have HH : Hid (hasB D.N x c = false) := hh
  have e1 : ¬ (c : Int) * 256 = 0 := by omega
  have e2 : ((c : Int) * 256).tmod 256 = 0 := Int.mul_tmod_left _ _
  have e3 : ((c : Int) * 256).tdiv 256 = c := Int.mul_tdiv_cancel _ (by decide)
  have e4 : ¬ c = 0 := by omega
  have e5 : wrap64 (c : Int) = c := by unfold wrap64; omega
  have e6 : IntKind.i64.wrap (c : Int) = c := by rw [IntKind.wrap_i64]; omega
  unfold boxW at HD HF BB
  clear h hf hu hh
  go_enter Try.func62, Try.ntmps62
  go_wp2_with (first
    | (go_at_call 52; refine (ready_ok _ d s m D l o HD.out HF.out).mono ?_; rintro e w1 ⟨rfl, rfl⟩; rw [HU.out, if_pos rfl])
    | (go_at_call 53; refine (has_ok _ d s m D x c HD.out hx).mono ?_; rintro e w1 ⟨rfl, rfl⟩; rw [HH.out]))
  go_ret
  exact ⟨rfl, BB.out⟩
set_option maxRecDepth 100000 in
theorem write_blow (W : World) (d s m : Nat) (D : Dsk) (l : Int) (o : Bool) (x : Int) (p : Option Addr) (c C : Nat) (h : DiskAt W d s m D) (hf : FuseIs W D.fz l o) (hq : FzOk D d s m) (hu : D.up o = true) (hp : fzPass D.fz l = false) (hc : 1 ≤ c) (hc8 : c ≤ 8) (hx : x < 9223372036854775808) (hh : hasB D.N x c = true) :
    Calls Try.prog 62 #[.pointer (some ⟨d, 0, none⟩), .int .i64 x, .slice p (c * 256) C] W (BlowPost W d s m D l) := by
  have HD : Hid (DiskAt (boxW W d x (.slice p (c * 256) C)) d s m D) := h.below (boxW_below _ _ _ _)
  have HF : Hid (FuseIs (boxW W d x (.slice p (c * 256) C)) D.fz l o) := hf.below (boxW_below _ _ _ _)
  have BB : Hid (Below W.heap.size W (boxW W d x (.slice p (c * 256) C))) := boxW_below _ _ _ _
  have HU : Hid (D.up o = true) := hu
  have HH : Hid (hasB D.N x c = true) := hh
  have e1 : ¬ (c : Int) * 256 = 0 := by omega
  have e2 : ((c : Int) * 256).tmod 256 = 0 := Int.mul_tmod_left _ _
  have e3 : ((c : Int) * 256).tdiv 256 = c := Int.mul_tdiv_cancel _ (by decide)
  have e4 : ¬ c = 0 := by omega
  have e5 : wrap64 (c : Int) = c := by unfold wrap64; omega
  have e6 : IntKind.i64.wrap (c : Int) = c := by rw [IntKind.wrap_i64]; omega
  unfold boxW at HD HF BB
  clear h hf hu hh
  go_enter Try.func62, Try.ntmps62
  go_wp2_with (first
    | (go_at_call 52; refine (ready_ok _ d s m D l o HD.out HF.out).mono ?_; rintro e w1 ⟨rfl, rfl⟩; rw [HU.out, if_pos rfl])
    | (go_at_call 53; refine (has_ok _ d s m D x c HD.out hx).mono ?_; rintro e w1 ⟨rfl, rfl⟩; rw [HH.out])
    | (go_at_call 75; refine (changeW_blow _ d s m _ D l o HD.out HF.out hq hp).mono ?_; rintro e w2 ⟨rfl, h1, h2, h3⟩
       have PP : Hid (BlowPost W d s m D l (.returned (.int .i64 11)) w2) := ⟨rfl, h1, h2, (Off.of BB.out).trans h3⟩
       clear h1 h2 h3))
  go_ret
  exact PP.out
end Go.Proofs.Ytfapmogjmjlokaa
