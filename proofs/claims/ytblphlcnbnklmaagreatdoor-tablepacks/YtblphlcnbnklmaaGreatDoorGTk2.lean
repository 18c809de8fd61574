/-
  Walks, not a claim by itself: block's takeRef, takeRefs, noRefs and noughts. By the verifier.
-/
import Derived.Test.YtblphlcnbnklmaaGreatDoorGTk
import Derived.Test.YtblphlcnbnklmaaGreatDoorGPut
namespace Go.Proofs.YtblphlcnbnklmaaGreatDoor
open Go.RowKit
theorem size_ref : (Tryz.prog.info? 57).map (·.size) = some 2 := by kernel_rfl
theorem int_one (x : Int) : ∀ v ∈ [Value.int .i64 x], v.oneCell' = true := by
  intro v hv
  simp only [List.mem_cons, List.not_mem_nil, or_false] at hv
  subst hv
  rfl
set_option maxRecDepth 100000 in
set_option maxHeartbeats 1000000 in
theorem takeref_any (w : World) (r q m c : Nat) (f : Nat → Int) (h : Lies w r q 8 f) (hm : 8 < m) (hc : m ≤ c) :
    Calls Tryz.prog 158 #[.slice (some ⟨r, q, none⟩) m c] w fun e w' => e = .returned (.tuple #[.agg (twoC (rdN f 0) (rdN f 1)).toArray, .slice (some ⟨r, q + 8, none⟩) (m - 8) (c - 8)]) ∧ Below w.heap.size w w' := by
  have HL := hidIt h
  clear h
  have K1 : Hid True := trivial
  have K2 : Hid True := trivial
  have T1 : Hid True := trivial
  have T2 : Hid True := trivial
  have L1 : Hid (∀ W, Below w.heap.size w W → Calls Tryz.prog 157 #[.slice (some ⟨r, q, none⟩) m c] W fun e w' => e = .returned (.tuple #[.int .i64 (rdN f 0), .slice (some ⟨r, q + 4, none⟩) (m - 4) (c - 4)]) ∧ Below W.heap.size W w') := fun W hB => by
    have := take_any W r q m c f ((HL.out.below hB).part 0 4 (by omega)|> fun k => ⟨fun j hj => by have := k.1 j hj; simpa using this, fun j hj => by have := k.2.1 j hj; simpa using this, k.2.2⟩) (by omega) hc
    rwa [show ps f 4 = rdN f 0 from (ps_congr _ _ 4 fun j _ => by rw [Nat.mul_zero, Nat.zero_add])] at this
  have L2 : Hid (∀ W, Below w.heap.size w W → Calls Tryz.prog 157 #[.slice (some ⟨r, q + 4, none⟩) (m - 4) (c - 4)] W fun e w' => e = .returned (.tuple #[.int .i64 (rdN f 1), .slice (some ⟨r, q + 8, none⟩) (m - 8) (c - 8)]) ∧ Below W.heap.size W w') := fun W hB => by
    have := take_any W r (q + 4) (m - 4) (c - 4) (fun j => f (4 * 1 + j)) ((HL.out.below hB).part 4 4 (by omega)) (by omega) (by omega)
    rwa [show q + 4 + 4 = q + 8 by omega, show m - 4 - 4 = m - 8 by omega, show c - 4 - 4 = c - 8 by omega] at this
  generalize rdN f 0 = x at L1 ⊢
  generalize rdN f 1 = y at L2 ⊢
  clear HL
  go_enter Tryz.func158, Tryz.ntmps158
  go_wp2_with (first
    | (have _q := T1; clear T1; refine wpList_alloc_rec rfl 57 rfl (twoC 0 0) w.heap.size rfl zero_ref ?_; intro W1 R1 B1 z1)
    | (have _q := T2; clear T2; refine wpList_alloc_rec rfl 57 rfl (twoC 0 0) (w.heap.size + 1) z1 zero_ref ?_; intro W2 R2 B2 z2; have R12 := hidIt (R1.below (by rw [z1]; exact B2)); have E2 := hidIt (B1.trans (B2.mono (by omega))); have R22 := hidIt R2; clear R1 B1 z1 R2 B2 z2)
    | (go_at_call 157; have _q := K1; clear K1; refine (L1.out _ E2.out).mono ?_; rintro e w3 ⟨rfl, B3⟩; have R13 := hidIt (R12.out.below B3); have R23 := hidIt (R22.out.below B3); have E3 := hidIt (below_sh (Nat.le_refl _) E2.out B3); clear B3 E2 R12 R22)
    | (refine wpList_put_rec rfl 3 (.tmp 10) (.tmp 8) rfl (w.heap.size + 1) 0 (twoC 0 0) [.int .i64 x] (twoC x 0) _ rfl rfl rfl R23.out (by show 0 + 1 ≤ 2; omega) rfl (by kernel_rfl) (int_one x) ?_; intro W4 R4 B4 z4; have R14 := hidIt (R13.out.but B4 (by omega)); have R24 := hidIt R4; have E4 := hidIt (E3.out.trans (B4.below (by omega) E3.out.size)); clear R4 B4 z4 R13 R23 E3)
    | (go_at_call 157; have _q := K2; clear K2; refine (L2.out _ E4.out).mono ?_; rintro e w5 ⟨rfl, B5⟩; have R15 := hidIt (R14.out.below B5); have R25 := hidIt (R24.out.below B5); have E5 := hidIt (below_sh (Nat.le_refl _) E4.out B5); clear B5 E4 R14 R24)
    | (refine wpList_put_rec rfl 3 (.tmp 16) (.tmp 14) rfl (w.heap.size + 1) 1 (twoC x 0) [.int .i64 y] (twoC x y) _ rfl rfl rfl R25.out (by show 1 + 1 ≤ 2; omega) rfl (by kernel_rfl) (int_one y) ?_; intro W6 R6 B6 z6; have R16 := hidIt (R15.out.but B6 (by omega)); have R26 := hidIt R6; have E6 := hidIt (E5.out.trans (B6.below (by omega) E5.out.size)); clear R6 B6 z6 R15 R25 E5)
    | (refine wpList_load_rec rfl 57 (.tmp 4) rfl (w.heap.size + 1) 0 (twoC x y) rfl _ Tryz.underlying57 rfl (by kernel_rfl) R26.out ?_)
    | (refine wpList_store_rec rfl 57 (.tmp 2) (.tmp 17) rfl w.heap.size 0 (twoC 0 0) (twoC x y) rfl rfl R16.out rfl (by kernel_rfl) (twoC_one _ _) ?_; intro W7 R7 B7; have E7 := hidIt (E6.out.trans (B7.below (Nat.le_refl _) E6.out.size)); have R17 := hidIt R7; clear R7 B7))
  have hl := R17.out.run_load 57 _ Tryz.underlying57 rfl (by kernel_rfl)
  refine bodyPost_ret (v := .tuple #[.agg (twoC x y).toArray, .slice (some ⟨r, q + 8, none⟩) (m - 8) (c - 8)]) (by simp [results, Tryz.results158, asAddr, hl]) rfl ⟨rfl, E7.out⟩
theorem make_refs (n : Nat) (h : n ≤ 1000) (w : World) : (Instr.makeSlice 66 (.int .i64 (n : Int)) (.int .i64 (n : Int))).run Tryz.prog w = .ok (.slice (some ⟨w.heap.size, 0, none⟩) n n) (w.alloc (.cells (madeCells #[.int .i64 0, .int .i64 0] (n * 2)) 57)) := by
  obtain ⟨i0, hi, hz0, hz1, hz2⟩ := info_parts (show (Tryz.prog.info? 57).map (fun i => (i.zero, i.size, i.bytes)) = some (some (.agg #[.int .i64 0, .int .i64 0]), 2, 16) by kernel_rfl)
  have hr := run_make (P := Tryz.prog) w 66 57 i0 _ Tryz.underlying66 hi hz0 .i64 .i64 n n (by omega) (Int.le_refl _) (by rw [hz2]; omega) (by omega)
  simp only [Int.toNat_natCast, hz1] at hr
  exact hr
theorem made_refs (n : Nat) : madeCells #[.int .i64 0, .int .i64 0] (n * 2) = (cl .i64 (n * 2) fun _ => 0).toArray := by
  apply Array.ext_getElem?
  intro j
  by_cases hj : j < n * 2
  · rw [show (cl .i64 (n * 2) fun _ => 0).toArray[j]? = some (.int .i64 0) from by rw [List.getElem?_toArray, cl_at _ _ _ j hj]]
    have : j % 2 = 0 ∨ j % 2 = 1 := by omega
    rcases this with e | e <;> simp [madeCells, hj, e]
  · rw [Array.getElem?_eq_none (by rw [size_madeCells]; omega), Array.getElem?_eq_none (by simp [cl_len]; omega)]
theorem wpList_make_refs {ops : Array Oper} {rest : List Oper} {op : Oper} {a : Act} {w : World} {Q : Exit → Act → World → Prop} (hgd : op.guard = none) (x y : Operand) (ho : op.op = .makeSlice 66 x y) (n H : Nat) (hH : w.heap.size = H)
    (hx : a.eval x = .int .i64 (n : Int)) (hy : a.eval y = .int .i64 (n : Int)) (hn : n ≤ 1000)
    (hK : ∀ W, Rec19 W H 0 (cl .i64 (n * 2) fun _ => 0) → Below H w W → W.heap.size = H + 1 → wpList Tryz.prog ops Q rest (a.put op.dst (.slice (some ⟨H, 0, none⟩) n n)) W) : wpList Tryz.prog ops Q (op :: rest) a w := by
  subst hH
  refine wpList_plain hgd fun K hK' => ?_
  unfold Oper.wp execOp
  simp only [ho, hx, hy, Sem.run_bind, make_refs n hn, Result.andThen_ok]
  exact hK' _ _ (hK _ (by rw [made_refs]; exact Rec19.new _ _ _) ((Below.refl _ _).alloc (Nat.le_refl _) _) (by simp))
theorem laidL_cl (k : IntKind) (N o c : Nat) (g f : Nat → Int) (h : o + c ≤ N) : laidL (cl k N g) o (cl k c f) = cl k N (over g o c f) := by
  refine List.ext_getElem? fun j => ?_
  unfold laidL over
  by_cases hj : j < N
  · rw [cl_at _ _ _ j hj]
    by_cases a : o ≤ j ∧ j < o + c
    · rw [List.append_assoc, List.getElem?_append_right (by simp [cl_len]; omega), List.getElem?_append_left (by simp [cl_len]; omega), List.length_take, cl_len, Nat.min_eq_left (by omega), cl_at _ _ _ _ (by omega), if_pos a]
    · rw [if_neg a]
      by_cases b : j < o
      · rw [List.append_assoc, List.getElem?_append_left (by simp [cl_len]; omega), List.getElem?_take, if_pos b, cl_at _ _ _ j hj]
      · rw [List.getElem?_append_right (by simp [cl_len]; omega), List.getElem?_drop, ← cl_at k N g j hj]
        congr 1
        simp [cl_len]
        omega
  · rw [List.getElem?_eq_none (by simp [cl_len]; omega), List.getElem?_eq_none (by rw [cl_len]; omega)]
/-- What is taken of k refs. -/
def tkF (F : Nat → Int) (k j : Nat) : Int := if j < 2 * k then rdN F j else 0
theorem tkF_step (F : Nat → Int) (k : Nat) (hk : k < 16) : laidL (cl .i64 32 (tkF F k)) (k * 2) (twoC (rdN F (2 * k)) (rdN F (2 * k + 1))) = cl .i64 32 (tkF F (k + 1)) := by
  have e : twoC (rdN F (2 * k)) (rdN F (2 * k + 1)) = cl .i64 2 (fun j => rdN F (2 * k + j)) := rfl
  rw [e, laidL_cl _ _ _ _ _ _ (by omega)]
  refine cl_congr _ _ _ _ fun j hj => ?_
  unfold over tkF
  by_cases a : k * 2 ≤ j ∧ j < k * 2 + 2
  · rw [if_pos a, if_pos (by omega)]
    show rdN F (2 * k + (j - k * 2)) = rdN F j
    rw [show 2 * k + (j - k * 2) = j by omega]
  · rw [if_neg a]
    by_cases b : j < 2 * k
    · rw [if_pos b, if_pos (by omega)]
    · rw [if_neg b, if_neg (by omega)]
def trsRel (w : World) (r q m c : Nat) (F : Nat → Int) (v i : Value) (wr : World) : Prop := ∃ k : Nat, k ≤ 16 ∧ i = .int .i64 k ∧ v = .slice (some ⟨r, q + 8 * k, none⟩) (m - 8 * k) (c - 8 * k) ∧ Rec19 wr w.heap.size 0 (cl .i64 32 (tkF F k)) ∧ Below w.heap.size w wr
theorem rdN_part (F : Nat → Int) (k i : Nat) : rdN (fun j => F (8 * k + j)) i = rdN F (2 * k + i) := by
  unfold rdN
  refine ps_congr _ _ 4 fun j _ => ?_
  show F (8 * k + (4 * i + j)) = F (4 * (2 * k + i) + j)
  congr 1
  omega
def TrsPost (w : World) (r q m c : Nat) (F : Nat → Int) (e : Ending) (w' : World) : Prop := e = .returned (.tuple #[.slice (some ⟨w.heap.size, 0, none⟩) 16 16, .slice (some ⟨r, q + 128, none⟩) (m - 128) (c - 128)]) ∧ Rec19 w' w.heap.size 0 (cl .i64 32 (rdN F)) ∧ Below w.heap.size w w'
set_option maxRecDepth 100000 in
set_option maxHeartbeats 1000000 in
theorem takerefs_any (w : World) (r q m c : Nat) (F : Nat → Int) (h : Lies w r q 128 F) (hm : 128 < m) (hc : m ≤ c) :
    Calls Tryz.prog 159 #[.slice (some ⟨r, q, none⟩) m c] w (TrsPost w r q m c F) := by
  have HL := hidIt h
  clear h
  go_enter Tryz.func159, Tryz.ntmps159
  go_wp2_with (refine wpList_make_refs rfl _ _ rfl 16 w.heap.size rfl rfl rfl (by omega) ?_; intro W1 R1 B1 z1)
  have ST : Hid (trsRel w r q m c F (.slice (some ⟨r, q, none⟩) m c) (.int .i64 0) W1) := ⟨0, by omega, rfl, rfl, by rw [← cl_congr .i64 32 (fun _ => 0) (tkF F 0) (fun j _ => by unfold tkF; rw [if_neg (by omega)])]; exact R1, B1⟩
  clear R1 B1 z1
  go_loopw [0, 9] (fun v i wr => trsRel w r q m c F v i wr) (fun _ i _ => 16 - (RowKit.intOf i).toNat)
  case atStart => exact ST.out
  case round =>
    obtain ⟨k, hk, rfl, rfl, hR, hB⟩ := hrel
    clear ST
    have RR := hidIt hR
    have BE := hidIt hB
    clear hR hB
    by_cases hlt : k < 16
    · have i0 : (k : Int) < 16 := by omega
      have TK : Hid (∀ W, Below w.heap.size w W → Calls Tryz.prog 158 #[.slice (some ⟨r, q + 8 * k, none⟩) (m - 8 * k) (c - 8 * k)] W fun e w' => e = .returned (.tuple #[.agg (twoC (rdN F (2 * k)) (rdN F (2 * k + 1))).toArray, .slice (some ⟨r, q + 8 * (k + 1), none⟩) (m - 8 * (k + 1)) (c - 8 * (k + 1))]) ∧ Below W.heap.size W w') := fun W hB => by
        have := takeref_any W r (q + 8 * k) (m - 8 * k) (c - 8 * k) (fun j => F (8 * k + j)) ((HL.out.below hB).part (8 * k) 8 (by omega)) (by omega) (by omega)
        rwa [rdN_part, rdN_part, Nat.add_zero, show q + 8 * k + 8 = q + 8 * (k + 1) by omega, show m - 8 * k - 8 = m - 8 * (k + 1) by omega, show c - 8 * k - 8 = c - 8 * (k + 1) by omega] at this
      go_wp2_with (first
        | (go_at_call 158; refine (TK.out _ BE.out).mono ?_; rintro e w3 ⟨rfl, B3⟩; have R3 := hidIt (RR.out.below B3); have E3 := hidIt (below_sh (Nat.le_refl _) BE.out B3); clear B3)
        | (refine wpList_put_rec rfl 57 (.tmp 19) (.tmp 17) rfl w.heap.size (k * 2) (cl .i64 32 (tkF F k)) (twoC (rdN F (2 * k)) (rdN F (2 * k + 1))) (cl .i64 32 (tkF F (k + 1))) (.agg (twoC (rdN F (2 * k)) (rdN F (2 * k + 1))).toArray) (by first | rfl | simp) rfl rfl R3.out (by rw [cl_len]; show k * 2 + 2 ≤ 32; omega) (tkF_step F k hlt) (by kernel_rfl) (twoC_one _ _) ?_; intro W4 R4 B4 z4; have R4' := hidIt R4; have E4 := hidIt (E3.out.trans (B4.below (Nat.le_refl _) E3.out.size)); clear R4 B4 z4 R3 E3))
      go_roundw
      case rel => exact ⟨k + 1, by omega, by go_num, rfl, R4'.out, E4.out⟩
      case measure => simp [RowKit.intOf]; omega
    · obtain rfl : k = 16 := by omega
      rw [show ((16 : Nat) : Int) = 16 from rfl]
      have PP : Hid (TrsPost w r q m c F (.returned (.tuple #[.slice (some ⟨w.heap.size, 0, none⟩) 16 16, .slice (some ⟨r, q + 8 * 16, none⟩) (m - 8 * 16) (c - 8 * 16)])) wr) := ⟨rfl, by rw [← cl_congr .i64 32 (tkF F 16) (rdN F) (fun j hj => by unfold tkF; rw [if_pos (by omega)])]; exact RR.out, BE.out⟩
      go_wp2_with fail
      go_ret2
      exact PP.out
end Go.Proofs.YtblphlcnbnklmaaGreatDoor
