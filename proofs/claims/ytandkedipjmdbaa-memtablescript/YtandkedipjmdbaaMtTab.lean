/-
  Walks, not a claim by itself: a pair is put in; tables that are made. By the verifier.
-/
import Derived.Test.YtandkedipjmdbaaMtIns4
namespace Go.Proofs.Ytandkedipjmdbaa
open Go.RowKit
theorem insert_any (W : World) (v : Value) (ps : List PV) (x : PV) (vb i : Nat) (hO : OwnP W 0 v ps) (hp : ∀ u ∈ pcs ps, u.oneCell' = true) (hv : Lone W vb x) (hne : ∀ g, v.ownBlock = some g → vb ≠ g) (hf : ps.length ≤ 63) (hi : i ≤ ps.length) :
    Calls Try.prog 55 #[v, .int .i64 (i : Int), .slice (some ⟨vb, 0, none⟩) 1 1] W (InsPost W v (ps.take i ++ x :: ps.drop i)) := by
  by_cases e : i = ps.length
  · have := ins_end W v ps x vb i e.symm hO hv (by omega)
    rw [List.take_of_length_le (by omega), List.drop_of_length_le (by omega)]
    exact this
  · rcases hO.form with ⟨_, h0⟩ | ⟨g, cap, rfl, _, hc, _⟩
    · rw [h0] at hi e; simp at hi e; omega
    · by_cases hr : ps.length < cap
      · exact ins_room W ps x vb ps.length i g cap rfl hO hp hv hf (by omega) (hne g rfl) hr
      · exact ins_grow W ps x vb ps.length i g cap rfl hO hp hv hf (by omega) hc (by omega)
theorem eqtb_ptr (d : Nat) (a : Addr) (w : World) : (Op.equalIn (d + 1) 24 (.pointer (some a)) (.pointer (some a))).run Try.prog w = .ok true w := by
  simp [Op.equalIn, run_underlying Try.underlying24, run_sameAddr_same]
theorem eqlt_ptr (a : Addr) (w : World) : (binOp .eql 24 (.pointer (some a)) (.pointer (some a))).run Try.prog w = .ok (.bool true) w := by
  have h : (Op.equal 24 (.pointer (some a)) (.pointer (some a))).run Try.prog w = .ok true w := eqtb_ptr 9999 a w
  simp only [binOp]
  simp [h]
theorem eqtb_nil (d : Nat) (a : Addr) (w : World) : (Op.equalIn (d + 1) 24 (.pointer none) (.pointer (some a))).run Try.prog w = .ok false w := by
  simp [Op.equalIn, run_underlying Try.underlying24]
theorem eqlt_nil (a : Addr) (w : World) : (binOp .eql 24 (.pointer none) (.pointer (some a))).run Try.prog w = .ok (.bool false) w := by
  have h : (Op.equal 24 (.pointer none) (.pointer (some a))).run Try.prog w = .ok false w := eqtb_nil 9999 a w
  simp only [binOp]
  simp [h]
set_option maxRecDepth 100000 in
theorem tmade_ok {W : World} {t : Nat} {v : Value} {ps : List PV} (h : Tab W t v ps) : Calls Try.prog 38 #[.pointer (some ⟨t, 0, none⟩)] W fun e w' => e = .returned (.bool true) ∧ w' = W := by
  have c0 := (h.rc.cel 0 _ rfl).1
  have hp := eqlt_ptr ⟨t, 0, none⟩
  clear h
  go_enter Try.func38, Try.ntmps38
  go_wp2_with fail
  go_ret
  exact ⟨rfl, rfl⟩
set_option maxRecDepth 100000 in
theorem tmade_nil (W : World) : Calls Try.prog 38 #[.pointer none] W fun e w' => e = .returned (.bool false) ∧ w' = W := by
  go_enter Try.func38, Try.ntmps38
  go_wp2_with fail
  go_ret
  exact ⟨rfl, rfl⟩
set_option maxRecDepth 100000 in
theorem tmade_no (W : World) (t : Nat) (h : W.cell? ⟨t, 0, none⟩ = some (.pointer none)) : Calls Try.prog 38 #[.pointer (some ⟨t, 0, none⟩)] W fun e w' => e = .returned (.bool false) ∧ w' = W := by
  have hp := eqlt_nil ⟨t, 0, none⟩
  go_enter Try.func38, Try.ntmps38
  go_wp2_with fail
  go_ret
  exact ⟨rfl, rfl⟩
/-- What build answers. -/
def BldPost (W : World) (v : Value) (e : Ending) (w' : World) : Prop := e = .returned (.pointer (some ⟨W.heap.size, 0, none⟩)) ∧ Rec19 w' W.heap.size 0 [.pointer (some ⟨W.heap.size, 0, none⟩), v] ∧ Below W.heap.size W w'
set_option maxRecDepth 100000 in
theorem build_any (W : World) (a : Option Addr) (n C : Nat) : Calls Try.prog 32 #[.slice a n C] W (BldPost W (.slice a n C)) := by
  go_enter Try.func32, Try.ntmps32
  go_wp2_with (first
    | (refine wpList_box_rec rfl 50 (.tmp 5) rfl [.pointer none, .slice a n C] rfl W.heap.size rfl ?_; intro W1 R1 B1 z1; have E1 := hidIt B1; have P1 := hidIt R1; clear R1 B1 z1)
    | (refine wpList_put_rec rfl 24 (.tmp 10) (.tmp 8) rfl W.heap.size 0 [.pointer none, .slice a n C] [.pointer (some ⟨W.heap.size, 0, none⟩)] [.pointer (some ⟨W.heap.size, 0, none⟩), .slice a n C] (.pointer (some ⟨W.heap.size, 0, none⟩)) rfl rfl rfl P1.out (by show 0 + 1 ≤ 2; omega) rfl (by kernel_rfl) (by intro u hu; rcases List.mem_singleton.1 hu with rfl; rfl) ?_; intro W2 R2 B2 z2; have F2 := hidIt (And.intro R2 (E1.out.trans (B2.below (Nat.le_refl _) E1.out.size))); clear R2 B2 z2))
  exact bodyPost_ret (v := .pointer (some ⟨W.heap.size, 0, none⟩)) (by simp [results, Try.results32, go_sem]) rfl ⟨rfl, F2.out.1, F2.out.2⟩
/-- What New answers. -/
def NewPost (W : World) (e : Ending) (w' : World) : Prop := e = .returned (.pointer (some ⟨W.heap.size, 0, none⟩)) ∧ Tab w' W.heap.size (.slice none 0 0) [] ∧ Below W.heap.size W w'
set_option maxRecDepth 100000 in
theorem tnew_any (W : World) : Calls Try.prog 9 #[] W (NewPost W) := by
  have B := hidIt (build_any W none 0 0)
  go_enter Try.func9, Try.ntmps9
  go_wp2_with (go_at_call 32; refine B.out.mono ?_; rintro e w1 ⟨rfl, hr, hb⟩; have F := hidIt (And.intro (Tab.nil w1 W.heap.size hr) hb); clear hr hb)
  exact bodyPost_ret (v := .pointer (some ⟨W.heap.size, 0, none⟩)) (by simp [results, Try.results9, go_sem]) rfl ⟨rfl, F.out.1, F.out.2⟩
theorem pcs_set : ∀ (ps : List PV) (i : Nat) (x : PV), i < ps.length → (((pcs ps).set (i * 3) x.k).set (i * 3 + 1) x.v).set (i * 3 + 2) (.bool x.p.g) = pcs (ps.take i ++ x :: ps.drop (i + 1))
  | [], _, _, h => by simp at h
  | y :: r, 0, x, _ => by
    show ((([y.k, y.v, .bool y.p.g] ++ pcs r : List Value).set 0 x.k).set 1 x.v).set 2 (.bool x.p.g) = pcs (x :: r)
    rfl
  | y :: r, i + 1, x, h => by
    have ih := pcs_set r i x (by simpa using h)
    show ((([y.k, y.v, .bool y.p.g] ++ pcs r : List Value).set ((i + 1) * 3) x.k).set ((i + 1) * 3 + 1) x.v).set ((i + 1) * 3 + 2) (.bool x.p.g) = y.cs ++ pcs (r.take i ++ x :: r.drop (i + 1))
    rw [← ih, show (i + 1) * 3 = i * 3 + 3 by omega]
    rfl
/-- A pair is stored in its place. -/
theorem OwnP.put {W : World} {g n cap : Nat} {ps : List PV} (h : OwnP W 0 (.slice (some ⟨g, 0, none⟩) n cap) ps) (hn : ps.length = n) (i : Nat) (hi : i < n) (x : PV) (h1 : ∀ u ∈ x.cs, u.oneCell' = true) :
    ∃ W2, (Instr.storeAt 47 (.pointer (some ⟨g, i * 3, none⟩)) (.agg x.cs.toArray)).run Try.prog W = .ok () W2 ∧ OwnP W2 0 (.slice (some ⟨g, 0, none⟩) n cap) (ps.take i ++ x :: ps.drop (i + 1)) ∧ But g W W2 := by
  subst hn
  have hl : (ps.take i ++ x :: ps.drop (i + 1)).length = ps.length := by simp; omega
  have th : W.there g (i * 3) 3 := fun j hj => by
    have := World.ownsRow.cellAt h (i * 3 + j) (by omega)
    exact ⟨by rw [this, List.getElem?_eq_getElem (by rw [pcs_len]; omega)]; rfl, World.ownsRow.frozenAt h _⟩
  refine ⟨_, run_storeAt_mid (P := Try.prog) W g (i * 3) _ x.cs.toArray (by exact th) (by kernel_rfl) (all_oneCell_toArray h1), ?_, But.cells _ _ _⟩
  have s1 := (World.ownsRow.stored h (i * 3) x.k).1
  have s2 := (World.ownsRow.stored s1 (i * 3 + 1) x.v).1
  have s3 := (World.ownsRow.stored s2 (i * 3 + 2) (.bool x.p.g)).1
  rw [pcs_set ps i x hi] at s3
  unfold OwnP
  rw [hl]
  exact s3
end Go.Proofs.Ytandkedipjmdbaa
