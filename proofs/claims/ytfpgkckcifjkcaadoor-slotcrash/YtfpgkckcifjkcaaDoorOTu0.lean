/-
  Plain facts and laws, not a claim by itself: a slot whose bytes are turned. By the verifier.
-/
import Derived.Test.YtfpgkckcifjkcaaDoorOSld
import Derived.Test.YtfpgkckcifjkcaaDoorBPick
namespace Go.Proofs.YtfpgkckcifjkcaaDoor
open Go.RowKit
theorem isSl_of (x : Int) : isSl (ofI x) = true := isSl_iff.2 (ofI_range x)
theorem judgeL_ss (n : Nat) (f : Nat → Int) (n' : Nat) (f' : Nat → Int) (k : Int) : ∃ st op vw mm, judgeL n f n' f' k = ss st op vw mm := by
  unfold judgeL
  repeat' split
  all_goals exact ⟨_, _, _, _, rfl⟩
/-- The bytes of a prepare, up to its end. -/
def Same (n : Nat) (F S : Nat → Int) : Prop := ∀ j, j < 256 + n → F j = S j
theorem same_txt {n : Nat} {F S : Nat → Int} (hF : ∀ j, 0 ≤ F j ∧ F j < 256) (hS : ∀ j, 0 ≤ S j ∧ S j < 256) : txtN (256 + n) F = txtN (256 + n) S ↔ Same n F S :=
  ⟨fun h => (txtN_inj (fun j _ => hF j) (fun j _ => hS j) h).2, fun h => txtN_congr _ _ _ h⟩
theorem head_txt {F S : Nat → Int} (hF : ∀ j, 0 ≤ F j ∧ F j < 256) (hS : ∀ j, 0 ≤ S j ∧ S j < 256) : txtN 256 F = txtN 256 S ↔ ∀ j, j < 256 → F j = S j :=
  ⟨fun h => (txtN_inj (fun j _ => hF j) (fun j _ => hS j) h).2, fun h => txtN_congr _ _ _ h⟩
section
variable {h f : Nat → Int} {n : Nat} {k : Int}
theorem slot_msg (j : Nat) (hj : j < 256 + n) : slotF h n f j = msgF (upd h 2 (n : Nat)) n f j := by unfold slotF; rw [if_pos hj]
theorem turn_whole (hn : n ≤ 1024) (hok : okH (upd h 2 (n : Nat)) = true) (hw : Words h) (hp : isPrep h k = true) {F : Nat → Int} (hs : Same n F (slotF h n f)) :
    prepOK 1280 F k = true ∧ (∀ j, j < 16 → hdrF F j = upd h 2 (n : Nat) j) ∧ headCode F = 0 :=
  slot_whole h f n 1280 k (by omega) hok hw hp F (fun j hj => (hs j hj).trans (slot_msg j hj))
theorem turn_head (hok : okH (upd h 2 (n : Nat)) = true) (hw : Words h) (hp : isPrep h k = true) (hn : n ≤ 1024) {F : Nat → Int} (hs : ∀ j, j < 256 → F j = slotF h n f j) :
    fhK 256 F k = 2 ∧ (∀ j, j < 16 → hdrF F j = upd h 2 (n : Nat) j) := by
  obtain ⟨_, b, c⟩ := turn_whole (h := h) (f := f) (n := n) (k := k) (F := slotF h n f) hn hok hw hp (fun _ _ => rfl)
  have e : ∀ j, j < 16 → hdrF F j = upd h 2 (n : Nat) j := fun j hj => (hdrF_congr _ _ hs j hj).trans (b j hj)
  exact ⟨head_whole rfl ((headCode_congr _ _ hs).trans c) (by rw [isPrep_congr _ _ k e]; exact hp), e⟩
theorem turn_bad {F : Nat → Int} (h : headC 256 F ≠ 0) : fhK 256 F k = 0 := bad_found h
/-- How the slot is where its prepare is as it was. -/
theorem turn_jB (hk : isSl k = true) (hn : n ≤ 1024) (hok : okH (upd h 2 (n : Nat)) = true) (hw : Words h) (hp : isPrep h k = true) {F1 F2 : Nat → Int} (h2 : Same n F2 (slotF h n f)) (h1 : ∀ j, j < 256 → F1 j = slotF h n f j) : judgeL 256 F1 1280 F2 k = ss 1 (upd h 2 (n : Nat) 5) (upd h 2 (n : Nat) 3) false := by
  obtain ⟨a, b, _⟩ := turn_whole (k := k) hn hok hw hp h2
  unfold judgeL
  rw [if_neg (by rw [hk]; decide), if_pos a, if_pos (turn_head hok hw hp hn h1).1, if_pos (txtN_congr _ _ _ (fun j hj => (h1 j hj).trans (h2 j (by omega)).symm)), b 5 (by omega), b 3 (by omega)]
theorem turn_jC (hk : isSl k = true) (hn : n ≤ 1024) (hok : okH (upd h 2 (n : Nat)) = true) (hw : Words h) (hp : isPrep h k = true) {F1 F2 : Nat → Int} (h2 : Same n F2 (slotF h n f)) (h1 : headC 256 F1 ≠ 0) : judgeL 256 F1 1280 F2 k = ss 1 (upd h 2 (n : Nat) 5) (upd h 2 (n : Nat) 3) true := by
  obtain ⟨a, b, _⟩ := turn_whole (k := k) hn hok hw hp h2
  unfold judgeL
  rw [if_neg (by rw [hk]; decide), if_pos a, if_neg (by rw [turn_bad h1]; decide), b 5 (by omega), b 3 (by omega)]
/-- And where it is not. -/
theorem turn_jD (hk : isSl k = true) (hok : okH (upd h 2 (n : Nat)) = true) (hw : Words h) (hp : isPrep h k = true) (hn : n ≤ 1024) {F1 F2 : Nat → Int} (h2 : prepOK 1280 F2 k = false) (h1 : ∀ j, j < 256 → F1 j = slotF h n f j) : judgeL 256 F1 1280 F2 k = ss 3 (hdrF F1 5) (hdrF F1 3) false := by
  unfold judgeL
  rw [if_neg (by rw [hk]; decide), if_neg (by rw [h2]; decide), if_pos (turn_head hok hw hp hn h1).1]
theorem turn_jE (hk : isSl k = true) {F1 F2 : Nat → Int} (h2 : prepOK 1280 F2 k = false) (h1 : headC 256 F1 ≠ 0) : judgeL 256 F1 1280 F2 k = ss 3 0 0 false := by
  unfold judgeL
  rw [if_neg (by rw [hk]; decide), if_neg (by rw [h2]; decide), if_neg (by rw [turn_bad h1]; decide), if_pos (turn_bad h1)]
/-- The prepare is told as it was. -/
theorem prep_same (hn : n ≤ 1024) (hok : okH (upd h 2 (n : Nat)) = true) (hw : Words h) (hp : isPrep h k = true) {F : Nat → Int} (hF : ∀ j, 0 ≤ F j ∧ F j < 256) (hs : Same n F (slotF h n f)) (g : Nat) (w : World) (hT : Tab w) (hR : IRow w g .u8 1280 F) :
    Calls Tryd.prog 19 #[.slice (some ⟨g, 0, none⟩) 1280 1280, .int .i64 k] w fun e w' => ∃ x, e = .returned (.tuple #[.agg (msg (upd h 2 (n : Nat)) (some ⟨x, 0, none⟩) n n).toArray, .bool true]) ∧ Arg w' (some ⟨x, 0, none⟩) n f ∧ Below w.heap.size w w' := by
  obtain ⟨a, b, _⟩ := turn_whole (k := k) hn hok hw hp hs
  refine (prep_ok (some ⟨g, 0, none⟩) 1280 1280 F k w hT (hR.front hF 1280 (by omega)) (Nat.le_refl _) (by omega) a).mono ?_
  rintro e w' ⟨x, rfl, _, hX, hB⟩
  have e2 : (hdrF F 2).toNat = n := by rw [b 2 (by omega)]; unfold upd; rw [if_pos rfl]; omega
  rw [e2] at hX ⊢
  refine ⟨x, ?_, (Arg.of (hX.lies (fun j _ => hF _))).congr ?_, hB⟩
  · unfold MB msg
    rw [hcs_congr _ _ b]
  · intro j hj
    rw [hs (256 + j) (by omega), slot_msg _ (by omega)]
    unfold msgF
    rw [if_neg (by omega), Nat.add_sub_cancel_left]
end
/-- Turns that lie in a block. -/
def TLies3 (w : World) (b off m : Nat) (Hd : Nat → Bool) (X Y : Nat → Int) : Prop := (∀ i, i < m → w.cell? ⟨b, off + i * 3, none⟩ = some (.bool (Hd i)) ∧ w.cell? ⟨b, off + i * 3 + 1, none⟩ = some (.int .i64 (X i)) ∧ w.cell? ⟨b, off + i * 3 + 2, none⟩ = some (.int .u8 (Y i)) ∧ 0 ≤ Y i ∧ Y i < 256) ∧ b < w.heap.size
/-- A slice of turns. -/
def TArg3 (w : World) (a : Option Addr) (m : Nat) (Hd : Nat → Bool) (X Y : Nat → Int) : Prop := m = 0 ∨ ∃ b off, a = some ⟨b, off, none⟩ ∧ TLies3 w b off m Hd X Y
theorem xor_byte (a b : Int) (h1 : 0 ≤ a ∧ a < 256) (h2 : 0 ≤ b ∧ b < 256) : 0 ≤ bits .xor .u8 a b ∧ bits .xor .u8 a b < 256 := by
  rw [u8_xor a b h1.1 h1.2 h2.1 h2.2]
  have : a.toNat ^^^ b.toNat < 2 ^ 8 := Nat.xor_lt_two_pow (by omega) (by omega)
  omega
/-- What stays. -/
def uS (w : World) (g q e : Nat) (hh : Nat → Int) (a : Option Addr) (n C : Nat) (S F1 F2 : Nat → Int) (W : World) : Prop :=
  Rec19 W w.heap.size 0 (msg hh a n C) ∧ IRow W g .u8 1280 F2 ∧ IRow W q .u8 1280 S ∧ IRow W e .u8 256 F1 ∧ Tab W ∧ Below w.heap.size w W
theorem uS.below {w : World} {g q e : Nat} {hh : Nat → Int} {a : Option Addr} {n C : Nat} {S F1 F2 : Nat → Int} {W W' : World} (s : uS w g q e hh a n C S F1 F2 W) (hB : Below W.heap.size W W') : uS w g q e hh a n C S F1 F2 W' :=
  ⟨s.1.below hB, s.2.1.below hB, s.2.2.1.below hB, s.2.2.2.1.below hB, s.2.2.2.2.1.below hB s.2.2.2.2.1.2, s.2.2.2.2.2.trans (hB.mono s.2.2.2.2.2.size)⟩
/-- What holds at the head of the loop. -/
def tuRel (w : World) (g q e m : Nat) (hh : Nat → Int) (a : Option Addr) (n C : Nat) (S : Nat → Int) (i : Value) (W : World) : Prop :=
  ∃ (k : Nat) (F1 F2 : Nat → Int), k ≤ m ∧ i = .int .i64 k ∧ uS w g q e hh a n C S F1 F2 W ∧ (∀ j, 0 ≤ F1 j ∧ F1 j < 256) ∧ (∀ j, 0 ≤ F2 j ∧ F2 j < 256)
theorem upd_byte {F : Nat → Int} (hF : ∀ j, 0 ≤ F j ∧ F j < 256) (r : Nat) {v : Int} (hv : 0 ≤ v ∧ v < 256) (j : Nat) : 0 ≤ upd F r v j ∧ upd F r v j < 256 := by
  unfold upd; split
  · exact hv
  · exact hF j
theorem tu_step1 {w W : World} {g q e m k r : Nat} {hh : Nat → Int} {a : Option Addr} {n C : Nat} {S F1 F2 : Nat → Int} {v : Int} (hk : k < m) (s : uS w g q e hh a n C S F1 F2 W) (h1 : ∀ j, 0 ≤ F1 j ∧ F1 j < 256) (h2 : ∀ j, 0 ≤ F2 j ∧ F2 j < 256) (hv : 0 ≤ v ∧ v < 256) (h0 : 0 < w.heap.size) (d : w.heap.size < e ∧ g ≠ e ∧ q ≠ e) :
    tuRel w g q e m hh a n C S (.int .i64 ((k : Int) + 1)) (W.setCell ⟨e, r, none⟩ (.int .u8 v)).drew :=
  ⟨k + 1, upd F1 r v, F2, by omega, by go_num, ⟨(s.1.but (But.set _ _ _) (by omega)).below (Below.refl _ _).drew, (s.2.1.but (But.set _ _ _) d.2.1).drew, (s.2.2.1.but (But.set _ _ _) d.2.2).drew, (s.2.2.2.1.set r v).drew, s.2.2.2.2.1.below ((((Below.refl w.heap.size W).setCell (by show _ ≤ e; omega) _).drew)) h0, (s.2.2.2.2.2.setCell (by show _ ≤ e; omega) _).drew⟩, upd_byte h1 r hv, h2⟩
theorem tu_step2 {w W : World} {g q e m k r : Nat} {hh : Nat → Int} {a : Option Addr} {n C : Nat} {S F1 F2 : Nat → Int} {v : Int} (hk : k < m) (s : uS w g q e hh a n C S F1 F2 W) (h1 : ∀ j, 0 ≤ F1 j ∧ F1 j < 256) (h2 : ∀ j, 0 ≤ F2 j ∧ F2 j < 256) (hv : 0 ≤ v ∧ v < 256) (h0 : 0 < w.heap.size) (d : w.heap.size < g ∧ q ≠ g ∧ e ≠ g) :
    tuRel w g q e m hh a n C S (.int .i64 ((k : Int) + 1)) (W.setCell ⟨g, r, none⟩ (.int .u8 v)).drew :=
  ⟨k + 1, F1, upd F2 r v, by omega, by go_num, ⟨(s.1.but (But.set _ _ _) (by omega)).below (Below.refl _ _).drew, (s.2.1.set r v).drew, (s.2.2.1.but (But.set _ _ _) d.2.1).drew, (s.2.2.2.1.but (But.set _ _ _) d.2.2).drew, s.2.2.2.2.1.below ((((Below.refl w.heap.size W).setCell (by show _ ≤ g; omega) _).drew)) h0, (s.2.2.2.2.2.setCell (by show _ ≤ g; omega) _).drew⟩, h1, upd_byte h2 r hv⟩
theorem tu_less (k m : Nat) (h : k < m) : m - (intOf (.int .i64 ((k : Int) + 1))).toNat < m - (intOf (.int .i64 (k : Int))).toNat := by
  show m - ((k : Int) + 1).toNat < m - ((k : Int)).toNat
  omega
/-- A row that was made by append. -/
theorem Own.row {w : World} {base : Nat} {v : Value} {n : Nat} {F : Nat → Int} (h : Own w base v n F) (hn : 0 < n) : ∃ g cap, v = .slice (some ⟨g, 0, none⟩) n cap ∧ base ≤ g ∧ n ≤ cap ∧ IRow w g .u8 n F := by
  rcases h.2 with ⟨_, h0⟩ | ⟨g, cap, cur, rfl, hbg, hg, hnc, _, hsz, htake⟩
  · omega
  refine ⟨g, cap, rfl, hbg, hnc, fun j hj => ?_, fun j => ?_, (Array.getElem?_eq_some_iff.1 hg).1⟩
  · rw [cell_of_row w g j cur 5 (0, 0) hg]
    have := cl_at .u8 n F j hj
    rw [← htake, List.getElem?_take, if_pos (by omega)] at this
    simpa using this
  · simp [World.frozen?, hg]
theorem tu_ar (n cq : Nat) (hn : n ≤ 1024) (hc : 1280 ≤ cq) : wrap64 (256 + (n : Int)) = 256 + (n : Int) ∧ IntKind.i64.wrap (256 + (n : Int)) = 256 + (n : Int) ∧ 0 ≤ 256 + (n : Int) ∧ 256 + (n : Int) ≤ 1280 ∧ 256 + (n : Int) ≤ cq ∧ (256 + (n : Int)).toNat = 256 + n := by
  refine ⟨?_, ?_, by omega, by omega, by omega, by omega⟩
  · unfold wrap64; omega
  · rw [IntKind.wrap_i64]; omega
end Go.Proofs.YtfpgkckcifjkcaaDoor
