/-
  Plain facts and laws, not a claim by itself: a slot behind a crash. By the verifier.
-/
import Derived.Test.YtfpgkckcifjkcaaDoorOPt
import Derived.Test.YtfpgkckcifjkcaaDoorOSm
namespace Go.Proofs.YtfpgkckcifjkcaaDoor
open Go.RowKit
theorem ng_any (g C : Nat) (f : Nat → Int) (hC : 1280 ≤ C) : NgOk (some ⟨g, 0, none⟩) 1280 C f := fun W hA => by
  rcases hA with ⟨h, _⟩ | ⟨_, b, off, hb, hl⟩
  · omega
  injection hb with hb
  injection hb with h1 h2
  subst h1 h2
  exact noughts_c _ _ 5 C f W hl (by omega) (by omega)
theorem judge_row2 (g g' : Nat) (C C' : Nat) (f f' : Nat → Int) (k : Int) (L : List Value) (w : World) (hT : Tab w) (hA : Arg w (some ⟨g, 0, none⟩) 256 f) (hA' : Arg w (some ⟨g', 0, none⟩) 1280 f') (hC : 256 ≤ C) (hC' : 1280 ≤ C') (hL : judgeL 256 f 1280 f' k = L) :
    Calls Tryd.prog 22 #[.slice (some ⟨g, 0, none⟩) 256 C, .slice (some ⟨g', 0, none⟩) 1280 C', .int .i64 k] w fun e w' => e = .returned (.agg L.toArray) ∧ Below w.heap.size w w' := by
  subst hL
  exact judge_any _ _ 256 C 1280 C' f f' k w hT hA hA' hC hC' (by omega) (ng_any g' C' f' hC')
/-- How an unwritten slot is. -/
theorem unw_whole {k : Int} (hk : isSl k = true) {F : Nat → Int} (hp : prepOK 1280 F k = true) : judgeL 256 (unwF k) 1280 F k = ss 1 (hdrF F 5) (hdrF F 3) true := by
  unfold judgeL
  rw [if_neg (by rw [hk]; decide), if_pos hp, if_neg (by rw [unw_found hk]; decide)]
theorem unw_empty {k : Int} (hk : isSl k = true) {F : Nat → Int} (hp : prepOK 1280 F k = false) (hz : zeroN 1280 F = true) : judgeL 256 (unwF k) 1280 F k = ss 4 0 0 false := by
  unfold judgeL
  rw [if_neg (by rw [hk]; decide), if_neg (by rw [hp]; decide), if_neg (by rw [unw_found hk]; decide), if_neg (by rw [unw_found hk]; decide), if_pos hz]
theorem unw_torn {k : Int} (hk : isSl k = true) {F : Nat → Int} (hp : prepOK 1280 F k = false) (hz : zeroN 1280 F = false) : judgeL 256 (unwF k) 1280 F k = ss 2 0 0 false := by
  unfold judgeL
  rw [if_neg (by rw [hk]; decide), if_neg (by rw [hp]; decide), if_neg (by rw [unw_found hk]; decide), if_neg (by rw [unw_found hk]; decide), if_neg (by rw [hz]; decide)]
theorem fhK_congr (f g : Nat → Int) (k : Int) (h : ∀ j, j < 256 → f j = g j) : fhK 256 f k = fhK 256 g k := by
  unfold fhK headC isUnw
  rw [headCode_congr f g h, isPrep_congr _ _ k (hdrF_congr f g h), txtN_congr 256 f g h]
section
variable {h f : Nat → Int} {n : Nat} {k : Int}
/-- Where the header is what says that the slot is unwritten. -/
theorem cut_unw (hk : isSl k = true) (hn : n ≤ 1024) (hok : okH (upd h 2 (n : Nat)) = true) (hw : Words h) (hp : isPrep h k = true) {F : Nat → Int} (h1 : ∀ j, j < 256 → F j = unwF k j) : judgeL 256 F 1280 (slotF h n f) k = ss 1 (upd h 2 (n : Nat) 5) (upd h 2 (n : Nat) 3) true := by
  obtain ⟨a, b, _⟩ := turn_whole (h := h) (f := f) (n := n) (k := k) (F := slotF h n f) hn hok hw hp (fun _ _ => rfl)
  unfold judgeL
  rw [if_neg (by rw [hk]; decide), if_pos a, if_neg (by rw [fhK_congr F (unwF k) k h1, unw_found hk]; decide), b 5 (by omega), b 3 (by omega)]
end
set_option maxRecDepth 100000 in
theorem eql_ss_no (a b c : Int) (d : Bool) (a' b' c' : Int) (d' : Bool) (h : a ≠ a') (w : World) : (binOp .eql 45 (.agg (ss a b c d).toArray) (.agg (ss a' b' c' d').toArray)).run Tryd.prog w = .ok (.bool false) w := by
  simp [go_sem, ss, h]
/-- What stays. -/
def cS (w : World) (g u : Nat) (hh : Nat → Int) (a : Option Addr) (n C : Nat) (S : Nat → Int) (k : Int) (W : World) : Prop :=
  Rec19 W w.heap.size 0 (msg hh a n C) ∧ IRow W g .u8 1280 S ∧ IRow W u .u8 256 (unwF k) ∧ Tab W ∧ Below w.heap.size w W
theorem cS.below {w : World} {g u : Nat} {hh : Nat → Int} {a : Option Addr} {n C : Nat} {S : Nat → Int} {k : Int} {W W' : World} (s : cS w g u hh a n C S k W) (hB : Below W.heap.size W W') : cS w g u hh a n C S k W' :=
  ⟨s.1.below hB, s.2.1.below hB, s.2.2.1.below hB, s.2.2.2.1.below hB s.2.2.2.1.2, s.2.2.2.2.trans (hB.mono s.2.2.2.2.size)⟩
theorem unwF_all (k : Int) (j : Nat) : 0 ≤ unwF k j ∧ unwF k j < 256 := by
  by_cases e : j < 256
  · exact unwF_byte k j e
  · have : unwF k j = 0 := by unfold unwF msgF; rw [if_neg e]
    rw [this]; omega
end Go.Proofs.YtfpgkckcifjkcaaDoor
