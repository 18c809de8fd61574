/-
  Walks, not a claim by itself: Read of grids that are nil, or that nobody made. By the verifier.
-/
import Derived.Test.YtcjapldhfolpnaaGreatDoorRecs
import Derived.Test.YtcjapldhfolpnaaGreatDoorReg
namespace Go.Proofs.YtcjapldhfolpnaaGreatDoor
open Go.RowKit Go.Maps
/-- No block. -/
def zgb : List Value := [.int .i64 0, .int .i64 0, .int .i64 0, .slice none 0 0, .slice none 0 0]
theorem zgb_one : ∀ v ∈ zgb, v.oneCell' = true := by
  intro v hv
  simp only [zgb, List.mem_cons, List.not_mem_nil, or_false] at hv
  rcases hv with rfl | rfl | rfl | rfl | rfl <;> rfl
theorem zero_gb : (Tryz.prog.info? 195).bind (·.zero) = some (.agg zgb.toArray) := by kernel_rfl
def twoR (p q : Int) : List Value := [.int .i64 p, .int .i64 q]
theorem wpList_build_to {ops : Array Oper} {rest : List Oper} {o : Oper} {a : Act} {w : World} {Q : Exit → Act → World → Prop} (hg : o.guard = none) (t : TypeId) (parts : Array (Nat × Operand)) (ho : o.op = .build t parts)
    (cells : Array Value) (hf : Tryz.prog.built t (parts.map fun (i, x) => (i, a.eval x)).toList = some cells)
    (h : wpList Tryz.prog ops Q rest (a.put o.dst (.agg cells)) w) : wpList Tryz.prog ops Q (o :: rest) a w := by
  refine wpList_build hg t parts ho (by rw [hf]; rfl) ?_
  rw [hf]
  exact h
theorem eqig_nil (d : Nat) (a : Addr) (w : World) : (Op.equalIn (d + 1) 25 (.pointer none) (.pointer (some a))).run Tryz.prog w = .ok false w := by
  simp [Op.equalIn, run_underlying Tryz.underlying25]
theorem eqlg_nil (a : Addr) (w : World) : (binOp .eql 25 (.pointer none) (.pointer (some a))).run Tryz.prog w = .ok (.bool false) w := by
  have h : (Op.equal 25 (.pointer none) (.pointer (some a))).run Tryz.prog w = .ok false w := eqig_nil 9999 a w
  simp only [binOp]
  simp [h]
/-- A pointer that is nil, or is to a zero Grid. -/
def NoG (W : World) (p : Option Addr) : Prop := p = none ∨ ∃ z, p = some ⟨z, 0, none⟩ ∧ W.cell? ⟨z, 0, none⟩ = some (.pointer none) ∧ z < W.heap.size
theorem NoG.below {W W' : World} {p : Option Addr} (h : NoG W p) (hB : Below W.heap.size W W') : NoG W' p := by
  rcases h with rfl | ⟨z, rfl, h1, h2⟩
  · exact .inl rfl
  · exact .inr ⟨z, rfl, (hB.cell (p := ⟨z, 0, none⟩) h2).trans h1, Nat.lt_of_lt_of_le h2 hB.size⟩
set_option maxRecDepth 100000 in
theorem gmade_none (W : World) (p : Option Addr) (h : NoG W p) : Calls Tryz.prog 98 #[.pointer p] W fun e w' => e = .returned (.bool false) ∧ w' = W := by
  rcases h with rfl | ⟨z, rfl, c0, _⟩
  · go_enter Tryz.func98, Tryz.ntmps98
    go_wp2_with fail
    go_ret
    exact ⟨rfl, rfl⟩
  · have hp := eqlg_nil ⟨z, 0, none⟩
    go_enter Tryz.func98, Tryz.ntmps98
    go_wp2_with fail
    go_ret
    exact ⟨rfl, rfl⟩
theorem gready_none (W : World) (p : Option Addr) (h : NoG W p) : Calls Tryz.prog 262 #[.pointer p] W fun e w' => e = .returned (.int .i64 1) ∧ w' = W := by
  have M := hidIt (gmade_none W p h)
  clear h
  go_enter Tryz.func262, Tryz.ntmps262
  go_wp2_with (go_at_call 98; refine M.out.mono ?_; rintro e w1 ⟨rfl, hw⟩; rw [hw]; clear hw w1)
  go_ret
  exact ⟨rfl, rfl⟩
theorem gasked_none (W : World) (a : Option Addr) (x y : Int) (h : NoG W a) : Calls Tryz.prog 238 #[.pointer a, .agg (twoR x y).toArray] W fun e w' => e = .returned (.int .i64 1) ∧ Below W.heap.size W w' := by
  have H := hidIt h
  clear h
  go_enter Tryz.func238, Tryz.ntmps238
  go_wp2_with (first
    | (refine wpList_box_rec rfl 108 (.tmp 1) rfl (twoR x y) rfl W.heap.size rfl ?_; intro W1 R1 B1 z1; have E1 := hidIt B1; clear R1 B1 z1)
    | (go_at_call 262; refine (gready_none W1 a (H.out.below E1.out)).mono ?_; rintro e w1 ⟨rfl, hw⟩; rw [hw]; clear hw w1))
  go_ret
  exact ⟨rfl, E1.out⟩
set_option maxRecDepth 100000 in
theorem gfind_none (W : World) (a : Option Addr) (x y : Int) (h : NoG W a) : Calls Tryz.prog 182 #[.pointer a, .agg (twoR x y).toArray] W fun e w' => e = .returned (.tuple #[(.agg zgb.toArray), .slice none 0 0, .int .i64 1]) ∧ Below W.heap.size W w' := by
  have H := hidIt h
  clear h
  have T1 : Hid True := trivial
  go_enter Tryz.func182, Tryz.ntmps182
  go_wp2_with (first
    | (refine wpList_box_rec rfl 108 (.tmp 1) rfl (twoR x y) rfl W.heap.size rfl ?_; intro W1 R1 B1 z1)
    | (have _q := T1; clear T1; refine wpList_alloc_rec rfl 195 rfl zgb (W.heap.size + 1) z1 zero_gb ?_; intro W2 R2 B2 z2
       have E2 := hidIt (B1.trans (B2.mono (by omega))); have P2 := hidIt (R1.below (by rw [z1]; exact B2)); have Q2 := hidIt R2; clear R1 B1 z1 R2 B2 z2)
    | (refine wpList_load_rec rfl 108 (.tmp 3) rfl W.heap.size 0 (twoR x y) rfl _ Tryz.underlying108 rfl (by kernel_rfl) P2.out ?_)
    | (go_at_call 238; refine (gasked_none _ a x y (H.out.below E2.out)).mono ?_; rintro e w3 ⟨rfl, hB⟩; have E3 := hidIt (below_sh (Nat.le_refl _) E2.out hB); have Q3 := hidIt (Q2.out.below hB); clear hB E2 Q2)
    | (refine wpList_build_to rfl 195 #[] rfl zgb.toArray (by kernel_rfl) ?_)
    | (refine wpList_store_rec rfl 195 (.tmp 4) (.tmp 16) rfl (W.heap.size + 1) 0 _ zgb rfl rfl Q3.out rfl (by kernel_rfl) zgb_one ?_; intro W4 R4 B4))
  have hl := R4.run_load 195 _ Tryz.underlying195 rfl (by kernel_rfl)
  refine bodyPost_ret (v := .tuple #[.agg zgb.toArray, .slice none 0 0, .int .i64 1]) (by simp [results, Tryz.results182, asAddr, hl]) rfl ⟨rfl, E3.out.trans (B4.below (by omega) E3.out.size)⟩
set_option maxRecDepth 100000 in
theorem gread_none (W : World) (a : Option Addr) (p q : Int) (h : NoG W a) : Calls Tryz.prog 114 #[.pointer a, .agg (twoR p q).toArray] W fun e w' => e = .returned (.tuple #[(.agg zgb.toArray), .int .i64 1]) ∧ Below W.heap.size W w' := by
  have H := hidIt h
  clear h
  have T1 : Hid True := trivial
  have T2 : Hid True := trivial
  go_enter Tryz.func114, Tryz.ntmps114
  go_wp2_with (first
    | (refine wpList_box_rec rfl 108 (.tmp 1) rfl (twoR p q) rfl W.heap.size rfl ?_; intro W1 R1 B1 z1)
    | (have _q := T1; clear T1; refine wpList_alloc_rec rfl 195 rfl zgb (W.heap.size + 1) z1 zero_gb ?_; intro W2 R2 B2 z2
       have E2 := hidIt (B1.trans (B2.mono (by omega))); have P2 := hidIt (R1.below (by rw [z1]; exact B2)); have Q2 := hidIt R2; have Z2 := hidIt z2; clear R1 B1 z1 R2 B2 z2)
    | (refine wpList_load_rec rfl 108 (.tmp 3) rfl W.heap.size 0 (twoR p q) rfl _ Tryz.underlying108 rfl (by kernel_rfl) P2.out ?_)
    | (go_at_call 182; refine (gfind_none _ a p q (H.out.below E2.out)).mono ?_; rintro e w4 ⟨rfl, hB⟩; have E4 := hidIt (below_sh (Nat.le_refl _) E2.out hB); have Q4 := hidIt (Q2.out.below hB); have Z4 : Hid (W.heap.size + 2 ≤ w4.heap.size) := hidIt (by have := Z2.out; have := hB.size; omega); clear hB E2 P2 Q2)
    | (have _q := Z4; have _p := T2; clear T2 _p; refine wpList_alloc_rec rfl 195 rfl zgb w4.heap.size rfl zero_gb ?_; intro W5 R5 B5 z5; have E5 := hidIt (below_sh (Nat.le_refl _) E4.out B5); have Q5 := hidIt (Q4.out.below B5); clear E4 Q4 B5 z5)
    | (refine wpList_store_rec rfl 195 (.tmp 6) (.tmp 13) rfl w4.heap.size 0 _ zgb rfl rfl R5 rfl (by kernel_rfl) zgb_one ?_; intro W6 R6 B6; have E6 := hidIt (E5.out.trans (B6.below (by have := Z4.out; omega) E5.out.size)); have Q6 := hidIt (Q5.out.but B6 (by have := Z4.out; omega)); have R66 := hidIt R6; clear R5 R6 B6 E5 Q5)
    | (refine wpList_load_rec rfl 195 (.tmp 6) rfl w4.heap.size 0 zgb rfl _ Tryz.underlying195 rfl (by kernel_rfl) R66.out ?_)
    | (refine wpList_store_rec rfl 195 (.tmp 4) (.tmp 16) rfl (W.heap.size + 1) 0 _ zgb rfl rfl Q6.out rfl (by kernel_rfl) zgb_one ?_; intro W7 R7 B7))
  have hl := R7.run_load 195 _ Tryz.underlying195 rfl (by kernel_rfl)
  refine bodyPost_ret (v := .tuple #[.agg zgb.toArray, .int .i64 1]) (by simp [results, Tryz.results114, asAddr, hl]) rfl ⟨rfl, E6.out.trans (B7.below (by omega) E6.out.size)⟩
end Go.Proofs.YtcjapldhfolpnaaGreatDoor
