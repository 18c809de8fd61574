/-
  Walks, not a claim by itself: the reference's Of, mine, Bytes, Unwritten. By the verifier.
-/
import Derived.Test.YtfpgkckcifjkcaaDoorReg
import Derived.RangeFuncNested
import Derived.RangeFuncWrites
import Derived.RangeFuncBound
import Derived.RangeFuncCalls
import Derived.RangeFuncLeaves
import Derived.Shelf.Abstract
import Derived.Shelf.RegionOpen
import Derived.WalkKit
import Derived.OwnWalkIn
import Derived.TacticsInMore
import Derived.LoopNIn
import Derived.LoopIn
import Derived.Test.YtfpgkckcifjkcaaDoorMLaw
import Derived.Test.YtfpgkckcifjkcaaDoorMSame
import Derived.Test.YtfpgkckcifjkcaaDoorNSl
import Derived.Test.YtfpgkckcifjkcaaDoorBApart3
namespace Go.Proofs.YtfpgkckcifjkcaaDoor
open Go.RowKit
/-- A region is left at its end. -/
def Only (Q : Exit → Act → World → Prop) (e : Exit) (a : Act) (w : World) : Prop := e = .normal ∧ Q .normal a w
theorem rows_in {l n : Nat} {P : Program} {row : String} {args : Array Value} {w : World} {R : Value → World → Prop} (h : Rows P row args w R) : RowsIn (Fence.wide.inRound l) n P row args w R :=
  fun c cs _ => let ⟨v, w', r, s⟩ := h c cs; ⟨v, w', r, stepsIn_wide.2 s⟩
theorem upon_in {l n : Nat} {P : Program} {o : Oper} {a : Act} {K : Act → World → Prop} {Q : Exit → Act → World → Prop} {r : Result Next} (h : o.upon P a K Q r) : o.uponIn (Fence.wide.inRound l) n P a K Q r := by
  cases r with
  | ok x w' =>
    cases x with
    | value v => exact h
    | skip => exact h
    | defer d => exact h
    | enter f args => exact ⟨fun q => (by cases q), (callsIn_wide.2 h).inRound l⟩
    | row row args => exact ⟨fun q => (by cases q), rows_in h⟩
    | _ => exact (h : False).elim
  | halt x w' => cases x <;> first | exact h | exact (h : False).elim
theorem op_in {l n : Nat} {P : Program} {ops : Array Oper} {Q : Exit → Act → World → Prop} {i : Nat} {K : Act → World → Prop} {a : Act} {w : World} (hd : ∀ (i : Nat) (o : Oper) c, ops[i]? = some o → o.op ≠ .defer c) (h : wpOp P ops (Only Q) i K a w) : wpOpIn (Fence.wide.inRound l) n P ops (Only Q) i K a w := by
  unfold wpOp at h
  unfold wpOpIn
  cases e : ops[i]? with
  | none => simpa only [e] using h
  | some o =>
    simp only [e] at h ⊢
    by_cases g : Region.wanted o (yielded ops a.tmps) = true
    · rw [if_pos g] at h ⊢
      rcases h with h | ⟨_, _, _, h, _⟩
      · refine ⟨fun f _ => trivial, ?_⟩
        rw [Oper.semAt_eq _ _ _ (hd i o · e)]
        exact upon_in h
      · cases h
    · rw [if_neg g] at h ⊢
      exact ⟨fun f _ => trivial, h⟩
theorem any_in {l n : Nat} {P : Program} {ops : Array Oper} {Q : Exit → Act → World → Prop} {md : Region.Mode} (hd : ∀ (i : Nat) (o : Oper) c, ops[i]? = some o → o.op ≠ .defer c) : ∀ (fuel : Nat) (listed : Array Bool) (a : Act) (w : World), wpAny P md ops (Only Q) fuel listed a w → wpAnyIn (Fence.wide.inRound l) n P md ops (Only Q) fuel listed a w
  | 0, _, _, _, h => h
  | fuel + 1, _, _, _, h => ⟨h.1, fun i hi => op_in hd (wpOp_mono (fun a' w' h' => any_in hd fuel _ a' w' h') (h.2 i hi))⟩
/-- No operation is a defer. -/
def noDefer (ops : Array Oper) : Bool := ops.all fun o => match o.op with | .defer _ => false | _ => true
theorem noDefer_at {ops : Array Oper} (h : noDefer ops = true) (i : Nat) (o : Oper) (c) (hi : ops[i]? = some o) : o.op ≠ .defer c := by
  intro e
  have := (Array.all_eq_true_iff_forall_mem.1 h) o (Array.mem_of_getElem? hi)
  rw [e] at this
  cases this
/-- A region that draws its order, in a round: S is shown once, and handed on. -/
theorem region_in {l n : Nat} {P : Program} {id : Nat} {ops : Array Oper} {Q : Exit → Act → World → Prop} {S : World → Prop} {a : Act} {w : World} (hm : P.follows .mixedOrders = true) (hd : noDefer ops = true) (hS : S w.drew)
    (h : S w.drew → wpAnyH P .any ops (Only Q) S ops.size (Array.replicate ops.size false) a w.drew) : (Code.region id ops true).wpIn (Fence.wide.inRound l) n P Q a w :=
  wpIn_mono (wpIn_region_any hm (any_in (noDefer_at hd) _ _ _ _ (wpAny_of_held _ _ _ _ (h hS)))) (fun e a w h => by obtain ⟨rfl, h⟩ := h; exact h)
end Go.Proofs.YtfpgkckcifjkcaaDoor
namespace Go.Proofs.YtfpgkckcifjkcaaDoor
open Go.RowKit Go.Shelf
attribute [local go_sem] Oper.semAt_some
set_option maxHeartbeats 1000000 in
theorem chunk_in (F : Fence) (n : Nat) (h5 : F.fn 63) (hro : F.round = none) (a : Option Addr) (len cap : Nat) (w : World) :
    CallsIn F n Tryd.prog 63 #[.slice a len cap, .int .i64 256] w fun e w' => e = .returned (.func (.func 78) #[] #[.pointer (some ⟨w.heap.size, 0, none⟩), .pointer (some ⟨w.heap.size + 1, 0, none⟩)]) ∧ w' = (w.alloc (.cells #[.slice a len cap] 27)).alloc (.cells #[.int .i64 256] 3) := by
  refine callsIn_of_wp Tryd.func63 rfl h5 ?_ hro
  simp only [Tryd.ntmps63, List.size_toArray, List.length_cons, List.length_nil, Nat.reduceAdd, Nat.reduceSub, Array.replicate_succ, Array.replicate_zero, List.push_toArray, List.append_toArray, List.nil_append, List.cons_append]
  gi_wp2
  go_ret
  exact ⟨rfl, rfl⟩

/-- The first k pieces' numbers. -/
def upTo (c k : Nat) : List (Fin c) := (List.finRange c).take k
theorem upTo_succ (c k : Nat) (h : k < c) : upTo c (k + 1) = upTo c k ++ [⟨k, h⟩] := by
  unfold upTo
  rw [List.take_add_one]
  congr 1
  simp [h]
theorem upTo_length (c k : Nat) (h : k ≤ c) : (upTo c k).length = k := by simp [upTo, h]
/-- What a round keeps: the closure's two boxes. -/
def Kc (Bs Bn : Nat) (A B : World) : Prop := B.cell? ⟨Bs, 0, none⟩ = A.cell? ⟨Bs, 0, none⟩ ∧ B.cell? ⟨Bn, 0, none⟩ = A.cell? ⟨Bn, 0, none⟩
theorem Kc.refl (Bs Bn : Nat) (A : World) : Kc Bs Bn A A := ⟨rfl, rfl⟩
theorem Kc.trans {Bs Bn : Nat} {A B C : World} (h : Kc Bs Bn A B) (k : Kc Bs Bn B C) : Kc Bs Bn A C := ⟨k.1.trans h.1, k.2.trans h.2⟩
theorem Kc.drew (Bs Bn : Nat) (A : World) : Kc Bs Bn A A.drew := ⟨rfl, rfl⟩
set_option maxRecDepth 100000 in
set_option maxHeartbeats 2000000 in
theorem chunk1_in (F : Fence) (n : Nat) (h7 : F.fn 78) (hro : F.round = none) (hn : 1 ≤ n) (l Bs Bn b off c C : Nat) (hc : c ≤ 8) (hC : c * 256 ≤ C) (J Jx : List (Fin c) → World → Prop) (hJd : ∀ pre W, J pre W → J pre W.drew)
    (hY : ∀ pre x W, J pre W → pre.length < c → YieldAt F (n - 1) Tryd.prog l #[.slice (some ⟨b, off + x.1 * 256, none⟩) 256 256] W fun e W' =>
      (e = .returned (.bool true) ∧ J (pre ++ [x]) W' ∧ Kc Bs Bn W W') ∨ (e = .returned (.bool false) ∧ Jx (pre ++ [x]) W'))
    (W : World) (hBs : W.cell? ⟨Bs, 0, none⟩ = some (.slice (some ⟨b, off, none⟩) (c * 256) C)) (hBn : W.cell? ⟨Bn, 0, none⟩ = some (.int .i64 256)) (h0 : J [] W) :
    CallsIn F n Tryd.prog 78 #[.func (.yield l) #[] #[], .pointer (some ⟨Bs, 0, none⟩), .pointer (some ⟨Bn, 0, none⟩)] W fun e W' => (∃ v, e = .returned v) ∧
      ((∃ ys, ys = upTo c c ∧ J ys W') ∨ (∃ pre, (∃ k, k ≤ c ∧ pre = upTo c k) ∧ Jx pre W')) := by
  refine callsIn_of_wp Tryd.func78 rfl h7 ?_ hro
  simp only [Tryd.ntmps78, List.size_toArray, List.length_cons, List.length_nil, Nat.reduceAdd, Nat.reduceSub, Array.replicate_succ, Array.replicate_zero, List.push_toArray, List.append_toArray, List.nil_append, List.cons_append]
  gi_wp2
  gi_loopw [4] (fun i wr => ∃ k : Nat, k ≤ c ∧ i = .int .i64 ((k : Int) * 256) ∧ J (upTo c k) wr ∧ Kc Bs Bn W wr)
    (fun i _ => c * 256 - (intOf i).toNat)
  case atStart => exact ⟨0, Nat.zero_le _, rfl, h0, Kc.refl _ _ _⟩
  case round =>
    obtain ⟨k, hk, rfl, hJs, hnx⟩ := hrel
    have e1 := hnx.1.trans hBs
    have e2 := hnx.2.trans hBn
    by_cases hlt : k < c
    · obtain ⟨fn, tmps, assign, body, hy, hR⟩ := hY _ ⟨k, hlt⟩ wr.drew (hJd _ _ hJs) (by rw [upTo_length _ _ hk]; exact hlt)
      dsimp only at hy
      have i0 : (k : Int) * 256 < (c : Int) * 256 := by omega
      have i1 : (0 : Int) ≤ (k : Int) * 256 := by omega
      have i2 : ((k : Int) * 256).toNat = k * 256 := by omega
      have i3 : (k : Int) * 256 ≤ C := by omega
      have i4 : ¬ C = k * 256 := by omega
      have i5 : ¬ ((c * 256 - k * 256 : Nat) : Int) < 256 := by omega
      have i6 : (k : Int) * 256 + 256 ≤ C := by omega
      have i7 : ((k : Int) * 256 + 256).toNat = k * 256 + 256 := by omega
      have i8 : k * 256 + 256 - k * 256 = 256 := by omega
      have i9 : wrap64 ((k : Int) * 256 + 256) = (k : Int) * 256 + 256 := by unfold wrap64; omega
      have i10 : IntKind.i64.wrap ((k : Int) * 256 + 256) = (k : Int) * 256 + 256 := by rw [IntKind.wrap_i64]; omega
      gi_wp2
      gi_region
      all_goals gi_wp2
      all_goals
        refine hR.mono ?_
        rintro e W3 (⟨rfl, hJ3, hk3⟩ | ⟨rfl, hJx3⟩)
        · have e3 := hk3.1.trans e1
          have e4 := hk3.2.trans e2
          gi_wp2
          go_roundw
          case rel => exact ⟨k + 1, by omega, by congr 1; omega, by rw [upTo_succ c k hlt]; exact hJ3, hnx.trans ((Kc.drew _ _ _).trans hk3)⟩
          case measure => simp [intOf]; omega
        · gi_wp2
          refine bodyPost_ret (results_none rfl _ _ _) rfl ?_
          exact ⟨⟨_, rfl⟩, .inr ⟨_, ⟨k + 1, by omega, (upTo_succ c k hlt).symm⟩, hJx3⟩⟩
    · obtain rfl : k = c := by omega
      gi_wp2
      go_end0
      exact ⟨⟨_, rfl⟩, .inl ⟨_, rfl, hJs⟩⟩
theorem chunk_stops (F : Fence) (n : Nat) (h7 : F.fn 78) (hro : F.round = none) (hn : 1 ≤ n) (Bs Bn b off c C : Nat) (hc : c ≤ 8) (hC : c * 256 ≤ C) (w : World) (hBs : Bs < w.heap.size) (hBn : Bn < w.heap.size)
    (h1 : w.cell? ⟨Bs, 0, none⟩ = some (.slice (some ⟨b, off, none⟩) (c * 256) C)) (h2 : w.cell? ⟨Bn, 0, none⟩ = some (.int .i64 256)) :
    SeqStopsK F n Tryd.prog 78 #[.pointer (some ⟨Bs, 0, none⟩), .pointer (some ⟨Bn, 0, none⟩)] (fun x : Fin c => #[Value.slice (some ⟨b, off + x.1 * 256, none⟩) 256 256]) (Kc Bs Bn) (fun ys => ys = upTo c c) (fun pre => ∃ k, k ≤ c ∧ pre = upTo c k) c w := fun l J Jx W hW hJ _ hY h0 =>
  chunk1_in F n h7 hro hn l Bs Bn b off c C hc hC J Jx (fun pre W hj => hJ pre W W.drew none hj ⟨rfl, rfl, rfl, Nat.le_refl _, fun _ _ _ => rfl⟩ (fun r e => by cases e)) hY W ((hW.cell (p := ⟨Bs, 0, none⟩) hBs).trans h1) ((hW.cell (p := ⟨Bn, 0, none⟩) hBn).trans h2) h0
end Go.Proofs.YtfpgkckcifjkcaaDoor
namespace Go.Proofs.YtfpgkckcifjkcaaDoor
open Go.RowKit
/-- The slot of an op. -/
def ofI (x : Int) : Int := if x < 0 then 0 else x % 16
theorem ofI_range (x : Int) : 0 ≤ ofI x ∧ ofI x < 16 := by unfold ofI; split <;> omega
theorem of_any (x : Int) (w : World) : Calls Tryd.prog 14 #[.int .i64 x] w fun e w' => e = .returned (.int .i64 (ofI x)) ∧ w' = w := by
  by_cases h : x < 0
  · have e : ofI x = 0 := if_pos h
    rw [e]
    go_enter Tryd.func14, Tryd.ntmps14
    go_wp2
    go_ret
    exact ⟨rfl, rfl⟩
  · have e : ofI x = x % 16 := if_neg h
    rw [e]
    go_enter Tryd.func14, Tryd.ntmps14
    go_wp2
    go_ret
    exact ⟨rfl, rfl⟩
/-- Is a number a slot's? -/
def isSl (n : Int) : Bool := decide (0 ≤ n) && decide (n < 16)
theorem isSlot_any (n : Int) (w : World) : Calls Tryd.prog 35 #[.int .i64 n] w fun e w' => e = .returned (.bool (isSl n)) ∧ w' = w := by
  by_cases h : 0 ≤ n
  · by_cases k : n < 16
    · rw [show isSl n = true from by simp [isSl, h, k]]
      go_enter Tryd.func35, Tryd.ntmps35
      go_wp2
      go_ret
      exact ⟨rfl, rfl⟩
    · rw [show isSl n = false from by simp [isSl, h, k]]
      go_enter Tryd.func35, Tryd.ntmps35
      go_wp2
      go_ret
      exact ⟨rfl, rfl⟩
  · rw [show isSl n = false from by simp [isSl, h]]
    go_enter Tryd.func35, Tryd.ntmps35
    go_wp2
    go_ret
    exact ⟨rfl, rfl⟩
/-- Is a header one of a prepare of the slot n? -/
def isPrep (h : Nat → Int) (n : Int) : Bool := decide (h 0 = 2) && (decide (1 ≤ h 5) && decide (ofI (h 5) = n))
set_option maxRecDepth 100000 in
theorem isPrepare_any (h : Nat → Int) (n : Int) (w : World) : Calls Tryd.prog 32 #[.agg (hcs h).toArray, .int .i64 n] w fun e w' => e = .returned (.bool (isPrep h n)) ∧ Below w.heap.size w w' := by
  by_cases e0 : h 0 = 2
  · by_cases e1 : 1 ≤ h 5
    · by_cases e2 : ofI (h 5) = n
      · rw [show isPrep h n = true from by simp [isPrep, e0, e1, e2]]
        subst e2
        go_enter Tryd.func32, Tryd.ntmps32
        go_wp2_with (first
          | (refine wpList_box_rec rfl 26 (.tmp 0) rfl (hcs h) rfl w.heap.size rfl ?_; intro W0 R0 B0 z0; obtain ⟨c0, _⟩ := R0.at 0 (.int .i64 (h 0)) rfl; obtain ⟨c5, _⟩ := R0.at 5 (.int .i64 (h 5)) rfl)
          | (go_at_call 14; refine (of_any (h 5) _).mono ?_; rintro e w3 ⟨rfl, rfl⟩))
        go_ret
        exact ⟨rfl, B0⟩
      · rw [show isPrep h n = false from by simp [isPrep, e0, e1, e2]]
        go_enter Tryd.func32, Tryd.ntmps32
        go_wp2_with (first
          | (refine wpList_box_rec rfl 26 (.tmp 0) rfl (hcs h) rfl w.heap.size rfl ?_; intro W0 R0 B0 z0; obtain ⟨c0, _⟩ := R0.at 0 (.int .i64 (h 0)) rfl; obtain ⟨c5, _⟩ := R0.at 5 (.int .i64 (h 5)) rfl)
          | (go_at_call 14; refine (of_any (h 5) _).mono ?_; rintro e w3 ⟨rfl, rfl⟩))
        go_ret
        refine ⟨?_, B0⟩
        rw [show (ofI (h 5) == n) = false from by simpa using e2]
        rfl
    · rw [show isPrep h n = false from by simp [isPrep, e0, e1]]
      go_enter Tryd.func32, Tryd.ntmps32
      go_wp2_with (first
        | (refine wpList_box_rec rfl 26 (.tmp 0) rfl (hcs h) rfl w.heap.size rfl ?_; intro W0 R0 B0 z0; obtain ⟨c0, _⟩ := R0.at 0 (.int .i64 (h 0)) rfl; obtain ⟨c5, _⟩ := R0.at 5 (.int .i64 (h 5)) rfl))
      go_ret
      exact ⟨rfl, B0⟩
  · rw [show isPrep h n = false from by simp [isPrep, e0]]
    go_enter Tryd.func32, Tryd.ntmps32
    go_wp2_with (first
      | (refine wpList_box_rec rfl 26 (.tmp 0) rfl (hcs h) rfl w.heap.size rfl ?_; intro W0 R0 B0 z0; obtain ⟨c0, _⟩ := R0.at 0 (.int .i64 (h 0)) rfl; obtain ⟨c5, _⟩ := R0.at 5 (.int .i64 (h 5)) rfl))
    go_ret
    exact ⟨rfl, B0⟩
end Go.Proofs.YtfpgkckcifjkcaaDoor
namespace Go.Proofs.YtfpgkckcifjkcaaDoor
open Go.RowKit
/-- The cells of what was found. -/
def fnd (x y z : Int) (f : Nat → Int) : List Value := [.int .i64 x, .int .i64 y, .int .i64 z] ++ cl .u8 256 f
theorem fnd_len (x y z : Int) (f : Nat → Int) : (fnd x y z f).length = 259 := by simp [fnd, cl_len]
theorem fnd_low (x y z : Int) (f : Nat → Int) (j : Nat) (h : j < 256) : (fnd x y z f)[3 + j]? = some (.int .u8 (f j)) := by
  unfold fnd
  rw [List.getElem?_append_right (by simp)]
  have := cl_at .u8 256 f j h
  simpa [show 3 + j - 3 = j by omega] using this
theorem fnd_one (x y z : Int) (f : Nat → Int) : ∀ v ∈ fnd x y z f, v.oneCell' = true := by
  intro v hv
  unfold fnd at hv
  rw [List.mem_append] at hv
  rcases hv with hv | hv
  · simp at hv; rcases hv with rfl | rfl | rfl <;> rfl
  · exact cl_one _ _ _ v hv
theorem fnd_congr (x y z : Int) (f g : Nat → Int) (h : ∀ j, j < 256 → f j = g j) : fnd x y z f = fnd x y z g := by
  unfold fnd; rw [cl_congr _ _ _ _ h]
theorem fnd_info (x y z : Int) (f : Nat → Int) : (Tryd.prog.info? 70).map (·.size) = some (fnd x y z f).length := by rw [fnd_len]; kernel_rfl
theorem zeroFnd : (Tryd.prog.info? 70).bind (·.zero) = some (.agg (fnd 0 0 0 (fun _ => 0)).toArray) := by kernel_rfl
theorem Rec19.fndArg {W : World} {g : Nat} {x y z : Int} {f : Nat → Int} (h : Rec19 W g 0 (fnd x y z f)) (hf : ∀ j, j < 256 → 0 ≤ f j ∧ f j < 256) : Arg W (some ⟨g, 3, none⟩) 256 f :=
  Arg.of ⟨fun j hj => by have := h.1 (3 + j) _ (fnd_low x y z f j hj); rwa [Nat.zero_add] at this, hf, h.2.2⟩
/-- copy of bytes into what was found. -/
theorem copy_found (W : World) (g n C : Nat) (a : Option Addr) (f h0 : Nat → Int) (x y z : Int) (hR : Rec19 W g 0 (fnd x y z h0)) (hn : 256 ≤ n) (hA : Arg W a n f) :
    ∃ W2, (∀ ty, (Builtin.copy_ #[27, 27] ty #[.slice (some ⟨g, 3, none⟩) 256 256, .slice a n C]).run Tryd.prog W = .ok (goInt (256 : Nat)) W2) ∧ Rec19 W2 g 0 (fnd x y z f) ∧ But g W W2 ∧ W2.heap.size = W.heap.size := by
  rcases hA with ⟨h, _⟩ | ⟨_, b, off, rfl, hl⟩
  · omega
  have ht : ∀ j, j < 256 → (W.cell? ⟨g, 3 + j, none⟩).isSome ∧ W.frozen? ⟨g, 3 + j, none⟩ = false := fun j hj => by
    have := hR.2.1 (3 + j) (by rw [fnd_len]; omega)
    rwa [Nat.zero_add] at this
  refine ⟨W.setCells g 3 (cl .u8 256 f), fun ty => ?_, ⟨fun j v hj => ?_, fun j hj => ?_, ?_⟩, But.cells _ _ _, size_cells _ _ _ _⟩
  · have := run_copy_cells (P := Tryd.prog) W 27 27 ty 5 g 3 256 256 ⟨b, off, none⟩ n C (cl .u8 256 f) Tryd.underlying27 (by kernel_rfl) (by rw [cl_len]; exact (Nat.min_eq_right hn).symm)
      (fun j v hj => by obtain ⟨hk, rfl⟩ := cl_at' hj; rw [Addr.add_mid]; exact hl.1 j (by omega))
      (fun j hj => by rw [cl_len] at hj; exact (ht j hj).1) (fun j hj => by rw [cl_len] at hj; exact (ht j hj).2) (cl_one _ _ _)
    rw [cl_len] at this
    exact this
  · have hj' : j < 259 := by have := (List.getElem?_eq_some_iff.1 hj).1; rwa [fnd_len] at this
    rw [Nat.zero_add]
    by_cases e : j < 3
    · rw [World.cell?_setCells_out g _ _ _ _ (fun _ _ => by rw [cl_len]; show j < 3 ∨ 3 + 256 ≤ j; omega)]
      have h2 : (fnd x y z h0)[j]? = some v := by
        rw [← hj]
        match j, e with
        | 0, _ | 1, _ | 2, _ => rfl
        | j + 3, e => omega
      have := hR.1 j v h2
      rwa [Nat.zero_add] at this
    · obtain ⟨i, rfl⟩ : ∃ i, j = 3 + i := ⟨j - 3, by omega⟩
      have := World.cell?_setCells_in g (cl .u8 256 f) 3 W (fun i hi => by rw [cl_len] at hi; exact (ht i hi).1) i (by rw [cl_len]; omega)
      rw [this, ← List.getElem?_eq_getElem, cl_at .u8 256 f i (by omega), ← hj, fnd_low x y z f i (by omega)]
  · rw [fnd_len] at hj
    have h3 := hR.2.1 j (by rw [fnd_len]; exact hj)
    refine ⟨?_, by rw [World.frozen?_setCells]; exact h3.2⟩
    rw [Nat.zero_add] at h3 ⊢
    by_cases e : j < 3
    · rw [World.cell?_setCells_out g _ _ _ _ (fun _ _ => by rw [cl_len]; show j < 3 ∨ 3 + 256 ≤ j; omega)]; exact h3.1
    · obtain ⟨i, rfl⟩ : ∃ i, j = 3 + i := ⟨j - 3, by omega⟩
      rw [World.cell?_setCells_in g (cl .u8 256 f) 3 W (fun i hi => by rw [cl_len] at hi; exact (ht i hi).1) i (by rw [cl_len]; omega)]
      rfl
  · rw [size_cells]; exact hR.2.2
set_option maxRecDepth 100000 in
set_option maxHeartbeats 1000000 in
theorem foundOf_any (h : Nat → Int) (a : Option Addr) (n C : Nat) (f : Nat → Int) (w : World) (hn : 256 ≤ n) (hA : Arg w a n f) :
    Calls Tryd.prog 61 #[.agg (hcs h).toArray, .slice a n C] w fun e w' => e = .returned (.agg (fnd 2 (h 5) (h 3) f).toArray) ∧ Below w.heap.size w w' := by
  have HA : Hid (Arg w a n f) := hA
  clear hA
  go_enter Tryd.func61, Tryd.ntmps61
  go_wp2_with (first
    | (refine wpList_box_rec rfl 26 (.tmp 0) rfl (hcs h) rfl w.heap.size rfl ?_; intro W0 R0 B0 z0
       have RH : Hid (Rec19 W0 w.heap.size 0 (hcs h)) := R0
       have BH : Hid (Below w.heap.size w W0) := B0
       clear R0 B0)
    | (have _q := RH; clear _q; refine wpList_alloc_rec rfl 70 rfl (fnd 0 0 0 (fun _ => 0)) (w.heap.size + 1) z0 zeroFnd ?_; intro W1 R1 B1 z1
       have E1 : Hid (Below w.heap.size w W1) := BH.out.trans (B1.mono (by omega))
       have H1 : Rec19 W1 w.heap.size 0 (hcs h) := RH.out.below (by rw [z0]; exact B1)
       have c5 := (H1.at 5 (.int .i64 (h 5)) rfl).1
       have c3 := (H1.at 3 (.int .i64 (h 3)) rfl).1
       have F1 : Hid (Rec19 W1 (w.heap.size + 1) 0 (fnd 0 0 0 (fun _ => 0))) := R1
       clear R1 H1 RH BH z0 B1)
    | (have _q := F1; clear _q; refine wpList_build_to rfl 70 _ rfl (fnd 2 (h 5) (h 3) (fun _ => 0)).toArray (by kernel_rfl) ?_)
    | (have _q := F1; clear _q; refine wpList_alloc_rec rfl 70 rfl (fnd 0 0 0 (fun _ => 0)) (w.heap.size + 1 + 1) z1 zeroFnd ?_; intro W2 R2 B2 z2)
    | (have _q := F1; clear _q; refine wpList_store_rec rfl 70 (.tmp 5) (.tmp 10) rfl (w.heap.size + 1 + 1) 0 _ (fnd 2 (h 5) (h 3) (fun _ => 0)) rfl rfl R2 (by rw [fnd_len, fnd_len]) (fnd_info _ _ _ _) (fnd_one _ _ _ _) ?_; intro W3 R3 B3
       have F3 : Hid (Rec19 W3 (w.heap.size + 1) 0 (fnd 0 0 0 (fun _ => 0))) := (F1.out.below (by rw [z1]; exact B2)).but B3 (by omega)
       have E3 : Hid (Below w.heap.size w W3) := E1.out.trans ((B2.mono (by omega)).trans (B3.below (by omega) (by omega)))
       have G3 : Hid (Rec19 W3 (w.heap.size + 1 + 1) 0 (fnd 2 (h 5) (h 3) (fun _ => 0))) := R3
       obtain ⟨W4, hc, R4, B4, z4⟩ := copy_found W3 (w.heap.size + 1 + 1) n C a f (fun _ => 0) 2 (h 5) (h 3) R3 hn (HA.out.below E3.out)
       clear c5 c3 F1 E1 R2 B2 z2 R3 B3 z1
       have F4 : Hid (Rec19 W4 (w.heap.size + 1) 0 (fnd 0 0 0 (fun _ => 0))) := F3.out.but B4 (by omega)
       have E4 : Hid (Below w.heap.size w W4) := E3.out.trans (B4.below (by omega) E3.out.size)
       have G4 : Hid (Rec19 W4 (w.heap.size + 1 + 1) 0 (fnd 2 (h 5) (h 3) f)) := R4
       clear R4 B4 z4 F3 E3 G3)
    | (have _q := F4; clear _q; refine wpList_load_rec rfl 70 (.tmp 5) rfl (w.heap.size + 1 + 1) 0 (fnd 2 (h 5) (h 3) f) rfl _ Tryd.underlying70 rfl (fnd_info _ _ _ _) G4.out ?_)
    | (have _q := F4; clear _q; refine wpList_store_rec rfl 70 (.tmp 4) (.tmp 15) rfl (w.heap.size + 1) 0 _ (fnd 2 (h 5) (h 3) f) rfl rfl F4.out (by rw [fnd_len, fnd_len]) (fnd_info _ _ _ _) (fnd_one _ _ _ _) ?_; intro W9 hR9 hB9))
  have hl := hR9.run_load 70 _ Tryd.underlying70 rfl (fnd_info _ _ _ _)
  refine bodyPost_ret (v := .agg (fnd 2 (h 5) (h 3) f).toArray) (by simp [results, Tryd.results61, asAddr, Act.put, hl]) rfl ⟨rfl, E4.out.trans (hB9.below (by omega) E4.out.size)⟩
set_option maxRecDepth 100000 in
set_option maxHeartbeats 1000000 in
theorem same_found (x y z x' y' z' : Int) (f g : Nat → Int) (w : World) (hf : ∀ j, j < 256 → 0 ≤ f j ∧ f j < 256) (hg : ∀ j, j < 256 → 0 ≤ g j ∧ g j < 256) :
    Calls Tryd.prog 42 #[.agg (fnd x y z f).toArray, .agg (fnd x' y' z' g).toArray] w fun e w' => e = .returned (.bool (decide (txtN 256 f = txtN 256 g))) ∧ Below w.heap.size w w' := by
  have HF : Hid (∀ j, j < 256 → 0 ≤ f j ∧ f j < 256) := hf
  have HG : Hid (∀ j, j < 256 → 0 ≤ g j ∧ g j < 256) := hg
  clear hf hg
  obtain ⟨p, hp⟩ : ∃ p, txtN 256 f = p := ⟨_, rfl⟩
  obtain ⟨q, hq⟩ : ∃ q, txtN 256 g = q := ⟨_, rfl⟩
  have HP : Hid (txtN 256 f = p) := hp
  have HQ : Hid (txtN 256 g = q) := hq
  rw [hp, hq]
  clear hp hq
  have T0 : Hid True := trivial
  go_enter Tryd.func42, Tryd.ntmps42
  go_wp2_with (first
    | (have _q := T0; clear _q; refine wpList_box_rec rfl 70 (.tmp 0) rfl (fnd x y z f) rfl w.heap.size rfl ?_; intro W0 R0 B0 z0; clear T0)
    | (have _q := z0; clear _q; refine wpList_box_rec rfl 70 (.tmp 1) rfl (fnd x' y' z' g) rfl (w.heap.size + 1) z0 ?_; intro W1 R1 B1 z1
       have E1 : Hid (Below w.heap.size w W1) := B0.trans (B1.mono (by omega))
       have S1 : Rec19 W1 w.heap.size 0 (fnd x y z f) := R0.below (by rw [z0]; exact B1)
       have k1 := conv_arg W1.drew (some ⟨w.heap.size, 3, none⟩) 256 256 f (S1.fndArg HF.out)
       have k2 := conv_arg W1.drew (some ⟨w.heap.size + 1, 3, none⟩) 256 256 g (R1.fndArg HG.out)
       rw [HP.out] at k1
       rw [HQ.out] at k2
       clear R0 B0 B1 z0 z1 S1 R1))
  refine wp_region_noPanic ?_
  refine wp_region_held_drew (S := fun W' => (convert 27 9 (.slice (some ⟨w.heap.size, 3, none⟩) 256 256)).run Tryd.prog W' = .ok (.string p) W' ∧ (convert 27 9 (.slice (some ⟨w.heap.size + 1, 3, none⟩) 256 256)).run Tryd.prog W' = .ok (.string q) W') (by kernel_rfl) ?_ (fun hHeld => ?_)
  · exact ⟨k1, k2⟩
  refine take_at (i := 0) (v := ?_) (some 5) rfl rfl (by kernel_rfl) (by kernel_rfl) (by kernel_rfl) (fun _ _ _ h => h) (Or.inl ⟨by rfl, ?_⟩) (by assumption) ?_
  rotate_left
  · (intro w hSw; (try dsimp only at hSw); go_simp; try with_reducible rfl)
  simp only [Act.put, List.setIfInBounds_toArray, List.set_cons_zero, List.set_cons_succ]
  refine take_at (i := 1) (v := ?_) (some 6) rfl rfl (by kernel_rfl) (by kernel_rfl) (by kernel_rfl) (fun _ _ _ h => h) (Or.inl ⟨by rfl, ?_⟩) (by assumption) ?_
  rotate_left
  · (intro w hSw; (try dsimp only at hSw); go_simp; try with_reducible rfl)
  simp only [Act.put, List.setIfInBounds_toArray, List.set_cons_zero, List.set_cons_succ]
  refine take_at (i := 2) (v := ?_) (some 7) rfl rfl (by kernel_rfl) (by kernel_rfl) (by kernel_rfl) (fun _ _ _ h => h) (Or.inl ⟨by rfl, ?_⟩) (by assumption) ?_
  rotate_left
  · (intro w hSw; (try dsimp only at hSw); go_simp; try with_reducible rfl)
  simp only [Act.put, List.setIfInBounds_toArray, List.set_cons_zero, List.set_cons_succ]
  refine take_at (i := 3) (v := ?_) (some 8) rfl rfl (by kernel_rfl) (by kernel_rfl) (by kernel_rfl) (fun _ _ _ h => h) (Or.inl ⟨by rfl, ?_⟩) (by assumption) ?_
  rotate_left
  · (intro w hSw; (try dsimp only at hSw); go_simp; try with_reducible rfl)
  simp only [Act.put, List.setIfInBounds_toArray, List.set_cons_zero, List.set_cons_succ]
  refine take_at (i := 4) (v := ?_) (some 9) rfl rfl (by kernel_rfl) (by kernel_rfl) (by kernel_rfl) (fun _ _ _ h => h) (Or.inl ⟨by rfl, ?_⟩) (by assumption) ?_
  rotate_left
  · (intro w hSw; (try dsimp only at hSw); go_simp; try with_reducible rfl)
  simp only [Act.put, List.setIfInBounds_toArray, List.set_cons_zero, List.set_cons_succ]
  refine take_at (i := 5) (v := ?_) (some 10) rfl rfl (by kernel_rfl) (by kernel_rfl) (by kernel_rfl) (fun _ _ _ h => h) (Or.inl ⟨by rfl, ?_⟩) (by assumption) ?_
  rotate_left
  · (intro w hSw; (try dsimp only at hSw); go_simp; try with_reducible rfl)
  simp only [Act.put, List.setIfInBounds_toArray, List.set_cons_zero, List.set_cons_succ]
  refine take_at (i := 6) (v := ?_) (some 11) rfl rfl (by kernel_rfl) (by kernel_rfl) (by kernel_rfl) (fun _ _ _ h => h) (Or.inl ⟨by rfl, ?_⟩) (by assumption) ?_
  rotate_left
  · (intro w hSw; (try dsimp only at hSw); go_simp; try with_reducible rfl)
  simp only [Act.put, List.setIfInBounds_toArray, List.set_cons_zero, List.set_cons_succ]
  refine take_at (i := 7) (v := ?_) (some 4) rfl rfl (by kernel_rfl) (by kernel_rfl) (by kernel_rfl) (fun _ _ _ h => h) (Or.inl ⟨by rfl, ?_⟩) (by assumption) ?_
  rotate_left
  · (intro w hSw; (try dsimp only at hSw); go_simp; try with_reducible rfl)
  simp only [Act.put, List.setIfInBounds_toArray, List.set_cons_zero, List.set_cons_succ]
  refine wpAnyH_done (by kernel_rfl) ?_ _
  refine NoPanic.normal ?_
  go_wp2_with fail
  go_ret
  exact ⟨by rw [bytes_beq]; rfl, E1.out.drew⟩
/-- Is one that was found older? -/
def olderB (y z y' z' : Int) : Bool := decide (y < y') || (decide (y = y') && decide (z < z'))
set_option maxRecDepth 100000 in
set_option maxHeartbeats 1000000 in
theorem older_found (x y z x' y' z' : Int) (f g : Nat → Int) (w : World) :
    Calls Tryd.prog 44 #[.agg (fnd x y z f).toArray, .agg (fnd x' y' z' g).toArray] w fun e w' => e = .returned (.bool (olderB y z y' z')) ∧ Below w.heap.size w w' := by
  by_cases h1 : y < y'
  · rw [show olderB y z y' z' = true from by simp [olderB, h1]]
    have T0 : Hid True := trivial
    go_enter Tryd.func44, Tryd.ntmps44
    go_wp2_with (first
      | (have _q := T0; clear _q; refine wpList_box_rec rfl 70 (.tmp 0) rfl (fnd x y z f) rfl w.heap.size rfl ?_; intro W0 R0 B0 z0; clear T0)
      | (have _q := z0; clear _q; refine wpList_box_rec rfl 70 (.tmp 1) rfl (fnd x' y' z' g) rfl (w.heap.size + 1) z0 ?_; intro W1 R1 B1 z1
         have E1 : Hid (Below w.heap.size w W1) := B0.trans (B1.mono (by omega))
         have S1 : Rec19 W1 w.heap.size 0 (fnd x y z f) := R0.below (by rw [z0]; exact B1)
         have c1 := (S1.at 1 (.int .i64 y) rfl).1
         have c2 := (S1.at 2 (.int .i64 z) rfl).1
         have d1 := (R1.at 1 (.int .i64 y') rfl).1
         have d2 := (R1.at 2 (.int .i64 z') rfl).1
         clear R0 B0 B1 z0 z1 S1 R1))
    go_ret
    exact ⟨rfl, E1.out⟩
  · have h1' : (y < y') = False := eq_false h1
    clear h1
    by_cases h2 : y = y'
    · subst h2
      by_cases h3 : z < z'
      · rw [show olderB y z y z' = true from by simp [olderB, h3]]
        have T0 : Hid True := trivial
        go_enter Tryd.func44, Tryd.ntmps44
        go_wp2_with (first
          | (have _q := T0; clear _q; refine wpList_box_rec rfl 70 (.tmp 0) rfl (fnd x y z f) rfl w.heap.size rfl ?_; intro W0 R0 B0 z0; clear T0)
          | (have _q := z0; clear _q; refine wpList_box_rec rfl 70 (.tmp 1) rfl (fnd x' y z' g) rfl (w.heap.size + 1) z0 ?_; intro W1 R1 B1 z1
             have E1 : Hid (Below w.heap.size w W1) := B0.trans (B1.mono (by omega))
             have S1 : Rec19 W1 w.heap.size 0 (fnd x y z f) := R0.below (by rw [z0]; exact B1)
             have c1 := (S1.at 1 (.int .i64 y) rfl).1
             have c2 := (S1.at 2 (.int .i64 z) rfl).1
             have d1 := (R1.at 1 (.int .i64 y) rfl).1
             have d2 := (R1.at 2 (.int .i64 z') rfl).1
             clear R0 B0 B1 z0 z1 S1 R1))
        go_ret
        exact ⟨rfl, E1.out⟩
      · have h3' : (z < z') = False := eq_false h3
        rw [show olderB y z y z' = false from by simp [olderB, h3]]
        clear h3
        have T0 : Hid True := trivial
        go_enter Tryd.func44, Tryd.ntmps44
        go_wp2_with (first
          | (have _q := T0; clear _q; refine wpList_box_rec rfl 70 (.tmp 0) rfl (fnd x y z f) rfl w.heap.size rfl ?_; intro W0 R0 B0 z0; clear T0)
          | (have _q := z0; clear _q; refine wpList_box_rec rfl 70 (.tmp 1) rfl (fnd x' y z' g) rfl (w.heap.size + 1) z0 ?_; intro W1 R1 B1 z1
             have E1 : Hid (Below w.heap.size w W1) := B0.trans (B1.mono (by omega))
             have S1 : Rec19 W1 w.heap.size 0 (fnd x y z f) := R0.below (by rw [z0]; exact B1)
             have c1 := (S1.at 1 (.int .i64 y) rfl).1
             have c2 := (S1.at 2 (.int .i64 z) rfl).1
             have d1 := (R1.at 1 (.int .i64 y) rfl).1
             have d2 := (R1.at 2 (.int .i64 z') rfl).1
             clear R0 B0 B1 z0 z1 S1 R1))
        go_ret
        exact ⟨rfl, E1.out⟩
    · rw [show olderB y z y' z' = false from by simp [olderB, h1', h2]]
      have T0 : Hid True := trivial
      go_enter Tryd.func44, Tryd.ntmps44
      go_wp2_with (first
        | (have _q := T0; clear _q; refine wpList_box_rec rfl 70 (.tmp 0) rfl (fnd x y z f) rfl w.heap.size rfl ?_; intro W0 R0 B0 z0; clear T0)
        | (have _q := z0; clear _q; refine wpList_box_rec rfl 70 (.tmp 1) rfl (fnd x' y' z' g) rfl (w.heap.size + 1) z0 ?_; intro W1 R1 B1 z1
           have E1 : Hid (Below w.heap.size w W1) := B0.trans (B1.mono (by omega))
           have S1 : Rec19 W1 w.heap.size 0 (fnd x y z f) := R0.below (by rw [z0]; exact B1)
           have c1 := (S1.at 1 (.int .i64 y) rfl).1
           have c2 := (S1.at 2 (.int .i64 z) rfl).1
           have d1 := (R1.at 1 (.int .i64 y') rfl).1
           have d2 := (R1.at 2 (.int .i64 z') rfl).1
           clear R0 B0 B1 z0 z1 S1 R1))
      go_ret
      exact ⟨rfl, E1.out⟩
/-- A state's cells. -/
def ss (st op vw : Int) (m : Bool) : List Value := [.int .i64 st, .int .i64 op, .int .i64 vw, .bool m]
theorem ss_one (st op vw : Int) (m : Bool) : ∀ v ∈ ss st op vw m, v.oneCell' = true := by
  intro v hv; unfold ss at hv; simp at hv; rcases hv with rfl | rfl | rfl | rfl <;> rfl
theorem zeroSs : (Tryd.prog.info? 45).bind (·.zero) = some (.agg (ss 0 0 0 false).toArray) := by kernel_rfl
set_option maxRecDepth 100000 in
set_option maxHeartbeats 1000000 in
theorem state_found (x y z st : Int) (m : Bool) (f : Nat → Int) (w : World) :
    Calls Tryd.prog 43 #[.agg (fnd x y z f).toArray, .int .i64 st, .bool m] w fun e w' => e = .returned (.agg (ss st y z m).toArray) ∧ Below w.heap.size w w' := by
  go_enter Tryd.func43, Tryd.ntmps43
  go_wp2_with (first
    | (refine wpList_box_rec rfl 70 (.tmp 0) rfl (fnd x y z f) rfl w.heap.size rfl ?_; intro W0 R0 B0 z0)
    | (have _q := z0; clear _q; refine wpList_alloc_rec rfl 45 rfl (ss 0 0 0 false) (w.heap.size + 1) z0 zeroSs ?_; intro W1 R1 B1 z1
       have E1 : Hid (Below w.heap.size w W1) := B0.trans (B1.mono (by omega))
       have S1 : Rec19 W1 w.heap.size 0 (fnd x y z f) := R0.below (by rw [z0]; exact B1)
       have c1 := (S1.at 1 (.int .i64 y) rfl).1
       have c2 := (S1.at 2 (.int .i64 z) rfl).1
       have F1 : Hid (Rec19 W1 (w.heap.size + 1) 0 (ss 0 0 0 false)) := R1
       clear R0 B0 B1 z0 S1 R1)
    | (have _q := F1; clear _q; refine wpList_build_to rfl 45 _ rfl (ss st y z m).toArray (by kernel_rfl) ?_)
    | (have _q := F1; clear _q; refine wpList_store_rec rfl 45 (.tmp 6) (.tmp 13) rfl (w.heap.size + 1) 0 _ (ss st y z m) rfl rfl F1.out rfl (by kernel_rfl) (ss_one _ _ _ _) ?_; intro W9 hR9 hB9))
  have hl := hR9.run_load 45 _ Tryd.underlying45 rfl (by kernel_rfl)
  refine bodyPost_ret (v := .agg (ss st y z m).toArray) (by simp [results, Tryd.results43, asAddr, Act.put, hl]) rfl ⟨rfl, E1.out.trans (hB9.below (by omega) E1.out.size)⟩
end Go.Proofs.YtfpgkckcifjkcaaDoor
namespace Go.Proofs.YtfpgkckcifjkcaaDoor
open Go.RowKit
/-- Do bytes stand at the front that are those of a prepare of the slot k? -/
def prepOK (n : Nat) (f : Nat → Int) (k : Int) : Bool := decide (256 ≤ n) && (decide (headCode f = 0) && (isPrep (hdrF f) k && (decide (hdrF f 2 ≤ ((n - 256 : Nat) : Int)) && decide (openCode (256 + (hdrF f 2).toNat) f = 0))))
theorem prepOK_iff {n : Nat} {f : Nat → Int} {k : Int} : prepOK n f k = true ↔ 256 ≤ n ∧ headCode f = 0 ∧ isPrep (hdrF f) k = true ∧ hdrF f 2 ≤ ((n - 256 : Nat) : Int) ∧ openCode (256 + (hdrF f 2).toNat) f = 0 := by
  unfold prepOK; simp
theorem size_range {f : Nat → Int} (h : headCode f = 0) : 0 ≤ hdrF f 2 ∧ hdrF f 2 ≤ 1024 := by
  have := (okH_iff _).1 (headCode_zero h).2.2 2 (by omega)
  unfold within at this
  rw [Bool.and_eq_true, decide_eq_true_iff, decide_eq_true_iff] at this
  exact this
theorem prep_ar (n C s : Nat) (x : Int) (hn : 256 ≤ n) (hC : n ≤ C) (hm : n ≤ 1000000) (h0 : 0 ≤ x) (h1 : x ≤ 1024) (hs : x ≤ ((n - 256 : Nat) : Int)) (hse : x.toNat = s) :
    x = (s : Int) ∧ ∃ d : Nat, s ≤ d ∧ wrap64 ((n : Int) - 256) = (d : Int) ∧ ((n : Int) - 256 < (s : Int)) = False ∧ wrap64 (256 + (s : Int)) = 256 + (s : Int) ∧ 0 ≤ 256 + (s : Int) ∧ IntKind.i64.wrap (256 + (s : Int)) = 256 + (s : Int) ∧ 256 + (s : Int) ≤ C ∧ (256 + (s : Int)).toNat = 256 + s ∧ 256 + s ≤ n := by
  refine ⟨by omega, n - 256, by omega, ?_, eq_false (by omega), ?_, by omega, ?_, by omega, by omega, by omega⟩
  · unfold wrap64; omega
  · unfold wrap64; omega
  · rw [IntKind.wrap_i64]; omega
theorem prep_ar2 (n : Nat) (x : Int) (hn : 256 ≤ n) (hm : n ≤ 1000000) (hs : ((n - 256 : Nat) : Int) < x) : (n : Int) - 256 < x ∧ wrap64 ((n : Int) - 256) = (n : Int) - 256 := by
  refine ⟨by omega, ?_⟩
  unfold wrap64; omega
/-- The answer: a message, and whether it is one. -/
abbrev MB (h : Nat → Int) (a : Option Addr) (n : Nat) (b : Bool) : Value := .tuple #[.agg (msg h a n n).toArray, .bool b]
set_option maxRecDepth 100000 in
set_option maxHeartbeats 400000 in
theorem prep_few (a : Option Addr) (n C : Nat) (k : Int) (w : World) (hn : n < 256) :
    Calls Tryd.prog 19 #[.slice a n C, .int .i64 k] w fun e w' => e = .returned (MB (fun _ => 0) none 0 false) ∧ Below w.heap.size w w' := by
  have e1 : (n : Int) < 256 := by omega
  go_enter Tryd.func19, Tryd.ntmps19
  go_wp2_with (first
    | (refine wpList_alloc_rec rfl 29 rfl (msg (fun _ => 0) none 0 0) w.heap.size rfl zeroMsg ?_; intro W1 hR1 hB1 hz1)
    | (refine wpList_build_to rfl 29 _ rfl (msg (fun _ => 0) none 0 0).toArray (by kernel_rfl) ?_)
    | (refine wpList_store_rec rfl 29 (.tmp 4) (.tmp 12) rfl w.heap.size 0 _ (msg (fun _ => 0) none 0 0) rfl rfl hR1 rfl (by kernel_rfl) (msg_one _ _ _ _) ?_; intro W2 hR2 hB2))
  have hl := hR2.run_load 29 _ Tryd.underlying29 rfl (by kernel_rfl)
  refine bodyPost_ret (v := MB (fun _ => 0) none 0 false) (by simp [results, Tryd.results19, asAddr, hl]) rfl ⟨rfl, ?_⟩
  exact hB1.trans (hB2.below (Nat.le_refl _) (by omega))
set_option maxRecDepth 100000 in
set_option maxHeartbeats 600000 in
theorem prep_head (b off n C : Nat) (f : Nat → Int) (k : Int) (w : World) (hT : Tab w) (hL : Lies w b off n f) (hn : 256 ≤ n) (hC : n ≤ C) (c : Int) (hc : headCode f = c) (h0 : c ≠ 0) :
    Calls Tryd.prog 19 #[.slice (some ⟨b, off, none⟩) n C, .int .i64 k] w fun e w' => e = .returned (MB (fun _ => 0) none 0 false) ∧ Below w.heap.size w w' := by
  have hT0 := hT.2
  have TT : Hid (Tab w) := hT
  have LL : Hid (Lies w b off n f) := hL
  obtain ⟨h, hh⟩ : ∃ h, headVal f = h := ⟨_, rfl⟩
  have HV : Hid (headVal f = h) := hh
  have HC : Hid (headCode f = c) := hc
  have c0 : (c != 0) = true := by simpa using h0
  clear hc hh h0
  clear hT hL
  have k1 : ¬ (n : Int) < 256 := by omega
  have k2 : (256 : Int) ≤ n := by omega
  have k3 : (256 : Int) ≤ C := by omega
  go_enter Tryd.func19, Tryd.ntmps19
  go_wp2_with (first
    | (refine wpList_alloc_rec rfl 29 rfl (msg (fun _ => 0) none 0 0) w.heap.size rfl zeroMsg ?_; intro W1 hR1 hB1 hz1
       have L1 : Hid (Lies W1 b off n f) := LL.out.below hB1
       have L1' : Hid (Lies W1 b off 256 f) := (L1.out.part 0 256 (by omega)).zero
       have R1 : Hid (Rec19 W1 w.heap.size 0 (msg (fun _ => 0) none 0 0)) := hR1
       have B1 : Hid (Below w.heap.size w W1) := hB1
       clear hR1 hB1 hz1)
    | (go_at_call 27; refine (head_any b off C f _ (TT.out.below B1.out hT0) L1'.out (by omega)).mono ?_; rintro e W2 ⟨rfl, hB2⟩; rw [HV.out, HC.out]
       have R2 : Hid (Rec19 W2 w.heap.size 0 (msg (fun _ => 0) none 0 0)) := R1.out.below hB2
       have L2 : Hid (Lies W2 b off n f) := L1.out.below hB2
       have B2 : Hid (Below w.heap.size w W2) := B1.out.trans (hB2.mono B1.out.size)
       clear hB2)
    | (have _q := B2; clear _q; refine wpList_alloc_rec rfl 26 rfl (hcs fun _ => 0) W2.heap.size rfl zeroHdr ?_; intro W3 hR3 hB3 hz3)
    | (have _q := B2; clear _q; refine wpList_store_rec rfl 26 (.tmp 6) (.tmp 17) rfl W2.heap.size 0 _ (hcs h) rfl rfl hR3 rfl (by kernel_rfl) (hcs_one _) ?_; intro W4 hR4 hB4
       have F4 : Below W2.heap.size W2 W4 := hB3.trans (hB4.below (Nat.le_refl _) (by omega))
       have R4 : Hid (Rec19 W4 w.heap.size 0 (msg (fun _ => 0) none 0 0)) := R2.out.below F4
       have L4 : Hid (Lies W4 b off n f) := L2.out.below F4
       have B4 : Hid (Below w.heap.size w W4) := B2.out.trans (F4.mono B2.out.size)
       have H4 : Hid (Rec19 W4 W2.heap.size 0 (hcs h)) := hR4
       have N4 : Hid (w.heap.size < W2.heap.size) := R2.out.2.2
       clear F4 hR3 hB3 hz3 hB4 hR4 R2 L2 B2)
    | (have _q := R4; clear _q; refine wpList_build_to rfl 29 _ rfl (msg (fun _ => 0) none 0 0).toArray (by kernel_rfl) ?_)
    | (have _q := R4; clear _q; refine wpList_store_rec rfl 29 (.tmp 4) (.tmp 35) rfl w.heap.size 0 _ (msg (fun _ => 0) none 0 0) rfl rfl R4.out rfl (by kernel_rfl) (msg_one _ _ _ _) ?_; intro W9 hR9 hB9))
  have hl := hR9.run_load 29 _ Tryd.underlying29 rfl (by kernel_rfl)
  refine bodyPost_ret (v := MB (fun _ => 0) none 0 false) (by simp [results, Tryd.results19, asAddr, hl]) rfl ⟨rfl, ?_⟩
  exact B4.out.trans (hB9.below (Nat.le_refl _) B4.out.size)
set_option maxRecDepth 100000 in
set_option maxHeartbeats 600000 in
theorem prep_not (b off n C : Nat) (f : Nat → Int) (k : Int) (w : World) (hT : Tab w) (hL : Lies w b off n f) (hn : 256 ≤ n) (hC : n ≤ C) (hc : headCode f = 0) (hp : isPrep (hdrF f) k = false) :
    Calls Tryd.prog 19 #[.slice (some ⟨b, off, none⟩) n C, .int .i64 k] w fun e w' => e = .returned (MB (fun _ => 0) none 0 false) ∧ Below w.heap.size w w' := by
  have hT0 := hT.2
  have TT : Hid (Tab w) := hT
  have LL : Hid (Lies w b off n f) := hL
  have hv : headVal f = hdrF f := by unfold headVal; rw [if_pos hc]
  obtain ⟨h, hh⟩ : ∃ h, hdrF f = h := ⟨_, rfl⟩
  rw [hh] at hv
  rw [hh] at hp
  have HH : Hid (hdrF f = h) := hh
  have HV : Hid (headVal f = h) := hv
  have HC : Hid (headCode f = 0) := hc
  have HP : Hid (isPrep h k = false) := hp
  clear hc hv hp hh
  clear hT hL
  have k1 : ¬ (n : Int) < 256 := by omega
  have k2 : (256 : Int) ≤ n := by omega
  have k3 : (256 : Int) ≤ C := by omega
  go_enter Tryd.func19, Tryd.ntmps19
  go_wp2_with (first
    | (refine wpList_alloc_rec rfl 29 rfl (msg (fun _ => 0) none 0 0) w.heap.size rfl zeroMsg ?_; intro W1 hR1 hB1 hz1
       have L1 : Hid (Lies W1 b off n f) := LL.out.below hB1
       have L1' : Hid (Lies W1 b off 256 f) := (L1.out.part 0 256 (by omega)).zero
       have R1 : Hid (Rec19 W1 w.heap.size 0 (msg (fun _ => 0) none 0 0)) := hR1
       have B1 : Hid (Below w.heap.size w W1) := hB1
       clear hR1 hB1 hz1)
    | (go_at_call 27; refine (head_any b off C f _ (TT.out.below B1.out hT0) L1'.out (by omega)).mono ?_; rintro e W2 ⟨rfl, hB2⟩; rw [HV.out, HC.out]
       have R2 : Hid (Rec19 W2 w.heap.size 0 (msg (fun _ => 0) none 0 0)) := R1.out.below hB2
       have L2 : Hid (Lies W2 b off n f) := L1.out.below hB2
       have B2 : Hid (Below w.heap.size w W2) := B1.out.trans (hB2.mono B1.out.size)
       clear hB2)
    | (have _q := B2; clear _q; refine wpList_alloc_rec rfl 26 rfl (hcs fun _ => 0) W2.heap.size rfl zeroHdr ?_; intro W3 hR3 hB3 hz3)
    | (have _q := B2; clear _q; refine wpList_store_rec rfl 26 (.tmp 6) (.tmp 17) rfl W2.heap.size 0 _ (hcs h) rfl rfl hR3 rfl (by kernel_rfl) (hcs_one _) ?_; intro W4 hR4 hB4
       have F4 : Below W2.heap.size W2 W4 := hB3.trans (hB4.below (Nat.le_refl _) (by omega))
       have R4 : Hid (Rec19 W4 w.heap.size 0 (msg (fun _ => 0) none 0 0)) := R2.out.below F4
       have L4 : Hid (Lies W4 b off n f) := L2.out.below F4
       have B4 : Hid (Below w.heap.size w W4) := B2.out.trans (F4.mono B2.out.size)
       have H4 : Hid (Rec19 W4 W2.heap.size 0 (hcs h)) := hR4
       have N4 : Hid (w.heap.size < W2.heap.size) := R2.out.2.2
       clear F4 hR3 hB3 hz3 hB4 hR4 R2 L2 B2)
    | (have _q := R4; clear _q; refine wpList_load_w (by rfl) 26 (.tmp 6) rfl W2.heap.size 0 (hcs h) rfl _ Tryd.underlying26 rfl (by kernel_rfl) H4.out ?_)
    | (have _q := R4; clear _q; go_at_call 32; refine (isPrepare_any h k _).mono ?_; rintro e W5 ⟨rfl, hB5⟩; rw [HP.out]
       have R5 : Hid (Rec19 W5 w.heap.size 0 (msg (fun _ => 0) none 0 0)) := R4.out.below hB5
       have L5 : Hid (Lies W5 b off n f) := L4.out.below hB5
       have B5 : Hid (Below w.heap.size w W5) := B4.out.trans (hB5.mono B4.out.size)
       have H5 : Hid (Rec19 W5 W2.heap.size 0 (hcs h)) := H4.out.below hB5
       have c2 : W5.cell? ⟨W2.heap.size, 2, none⟩ = some (.int .i64 (h 2)) := (H5.out.at 2 _ rfl).1
       clear hB5 R4 L4 B4 H4)
    | (have _q := R5; clear _q; refine wpList_build_to rfl 29 _ rfl (msg (fun _ => 0) none 0 0).toArray (by kernel_rfl) ?_)
    | (have _q := R5; clear _q; refine wpList_store_rec rfl 29 (.tmp 4) (.tmp 35) rfl w.heap.size 0 _ (msg (fun _ => 0) none 0 0) rfl rfl R5.out rfl (by kernel_rfl) (msg_one _ _ _ _) ?_; intro W9 hR9 hB9))
  have hl := hR9.run_load 29 _ Tryd.underlying29 rfl (by kernel_rfl)
  refine bodyPost_ret (v := MB (fun _ => 0) none 0 false) (by simp [results, Tryd.results19, asAddr, hl]) rfl ⟨rfl, ?_⟩
  exact B5.out.trans (hB9.below (Nat.le_refl _) B5.out.size)
set_option maxRecDepth 100000 in
set_option maxHeartbeats 600000 in
theorem prep_long (b off n C : Nat) (f : Nat → Int) (k : Int) (w : World) (hT : Tab w) (hL : Lies w b off n f) (hn : 256 ≤ n) (hC : n ≤ C) (hC2 : n ≤ 1000000) (hc : headCode f = 0) (hp : isPrep (hdrF f) k = true) (hs : ((n - 256 : Nat) : Int) < hdrF f 2) :
    Calls Tryd.prog 19 #[.slice (some ⟨b, off, none⟩) n C, .int .i64 k] w fun e w' => e = .returned (MB (fun _ => 0) none 0 false) ∧ Below w.heap.size w w' := by
  have hT0 := hT.2
  have TT : Hid (Tab w) := hT
  have LL : Hid (Lies w b off n f) := hL
  have hv : headVal f = hdrF f := by unfold headVal; rw [if_pos hc]
  obtain ⟨h, hh⟩ : ∃ h, hdrF f = h := ⟨_, rfl⟩
  rw [hh] at hv
  rw [hh] at hp
  have HH : Hid (hdrF f = h) := hh
  have HV : Hid (headVal f = h) := hv
  have HC : Hid (headCode f = 0) := hc
  have HP : Hid (isPrep h k = true) := hp
  rw [hh] at hs
  obtain ⟨s0, s1⟩ := prep_ar2 n (h 2) hn hC2 hs
  clear hc hv hp hh hs
  clear hT hL
  have k1 : ¬ (n : Int) < 256 := by omega
  have k2 : (256 : Int) ≤ n := by omega
  have k3 : (256 : Int) ≤ C := by omega
  go_enter Tryd.func19, Tryd.ntmps19
  go_wp2_with (first
    | (refine wpList_alloc_rec rfl 29 rfl (msg (fun _ => 0) none 0 0) w.heap.size rfl zeroMsg ?_; intro W1 hR1 hB1 hz1
       have L1 : Hid (Lies W1 b off n f) := LL.out.below hB1
       have L1' : Hid (Lies W1 b off 256 f) := (L1.out.part 0 256 (by omega)).zero
       have R1 : Hid (Rec19 W1 w.heap.size 0 (msg (fun _ => 0) none 0 0)) := hR1
       have B1 : Hid (Below w.heap.size w W1) := hB1
       clear hR1 hB1 hz1)
    | (go_at_call 27; refine (head_any b off C f _ (TT.out.below B1.out hT0) L1'.out (by omega)).mono ?_; rintro e W2 ⟨rfl, hB2⟩; rw [HV.out, HC.out]
       have R2 : Hid (Rec19 W2 w.heap.size 0 (msg (fun _ => 0) none 0 0)) := R1.out.below hB2
       have L2 : Hid (Lies W2 b off n f) := L1.out.below hB2
       have B2 : Hid (Below w.heap.size w W2) := B1.out.trans (hB2.mono B1.out.size)
       clear hB2)
    | (have _q := B2; clear _q; refine wpList_alloc_rec rfl 26 rfl (hcs fun _ => 0) W2.heap.size rfl zeroHdr ?_; intro W3 hR3 hB3 hz3)
    | (have _q := B2; clear _q; refine wpList_store_rec rfl 26 (.tmp 6) (.tmp 17) rfl W2.heap.size 0 _ (hcs h) rfl rfl hR3 rfl (by kernel_rfl) (hcs_one _) ?_; intro W4 hR4 hB4
       have F4 : Below W2.heap.size W2 W4 := hB3.trans (hB4.below (Nat.le_refl _) (by omega))
       have R4 : Hid (Rec19 W4 w.heap.size 0 (msg (fun _ => 0) none 0 0)) := R2.out.below F4
       have L4 : Hid (Lies W4 b off n f) := L2.out.below F4
       have B4 : Hid (Below w.heap.size w W4) := B2.out.trans (F4.mono B2.out.size)
       have H4 : Hid (Rec19 W4 W2.heap.size 0 (hcs h)) := hR4
       have N4 : Hid (w.heap.size < W2.heap.size) := R2.out.2.2
       clear F4 hR3 hB3 hz3 hB4 hR4 R2 L2 B2)
    | (have _q := R4; clear _q; refine wpList_load_w (by rfl) 26 (.tmp 6) rfl W2.heap.size 0 (hcs h) rfl _ Tryd.underlying26 rfl (by kernel_rfl) H4.out ?_)
    | (have _q := R4; clear _q; go_at_call 32; refine (isPrepare_any h k _).mono ?_; rintro e W5 ⟨rfl, hB5⟩; rw [HP.out]
       have R5 : Hid (Rec19 W5 w.heap.size 0 (msg (fun _ => 0) none 0 0)) := R4.out.below hB5
       have L5 : Hid (Lies W5 b off n f) := L4.out.below hB5
       have B5 : Hid (Below w.heap.size w W5) := B4.out.trans (hB5.mono B4.out.size)
       have H5 : Hid (Rec19 W5 W2.heap.size 0 (hcs h)) := H4.out.below hB5
       have c2 : W5.cell? ⟨W2.heap.size, 2, none⟩ = some (.int .i64 (h 2)) := (H5.out.at 2 _ rfl).1
       clear hB5 R4 L4 B4 H4)
    | (have _q := R5; clear _q; refine wpList_build_to rfl 29 _ rfl (msg (fun _ => 0) none 0 0).toArray (by kernel_rfl) ?_)
    | (have _q := R5; clear _q; refine wpList_store_rec rfl 29 (.tmp 4) (.tmp 35) rfl w.heap.size 0 _ (msg (fun _ => 0) none 0 0) rfl rfl R5.out rfl (by kernel_rfl) (msg_one _ _ _ _) ?_; intro W9 hR9 hB9))
  have hl := hR9.run_load 29 _ Tryd.underlying29 rfl (by kernel_rfl)
  refine bodyPost_ret (v := MB (fun _ => 0) none 0 false) (by simp [results, Tryd.results19, asAddr, hl]) rfl ⟨rfl, ?_⟩
  exact B5.out.trans (hB9.below (Nat.le_refl _) B5.out.size)
set_option maxRecDepth 100000 in
set_option maxHeartbeats 600000 in
theorem prep_shut (b off n C : Nat) (f : Nat → Int) (k : Int) (w : World) (hT : Tab w) (hL : Lies w b off n f) (hn : 256 ≤ n) (hC : n ≤ C) (hC2 : n ≤ 1000000) (hc : headCode f = 0) (hp : isPrep (hdrF f) k = true) (hs : hdrF f 2 ≤ ((n - 256 : Nat) : Int)) (ho : openCode (256 + (hdrF f 2).toNat) f ≠ 0) :
    Calls Tryd.prog 19 #[.slice (some ⟨b, off, none⟩) n C, .int .i64 k] w fun e w' => e = .returned (MB (fun _ => 0) none 0 false) ∧ Below w.heap.size w w' := by
  have hT0 := hT.2
  have TT : Hid (Tab w) := hT
  have LL : Hid (Lies w b off n f) := hL
  obtain ⟨hz0, hz1⟩ := size_range hc
  obtain ⟨s, hse⟩ : ∃ s : Nat, (hdrF f 2).toNat = s := ⟨_, rfl⟩
  rw [hse] at ho
  have HO : Hid (openCode (256 + s) f ≠ 0) := ho
  have hv : headVal f = hdrF f := by unfold headVal; rw [if_pos hc]
  obtain ⟨h, hh⟩ : ∃ h, hdrF f = h := ⟨_, rfl⟩
  rw [hh] at hv
  rw [hh] at hp
  have HH : Hid (hdrF f = h) := hh
  have HV : Hid (headVal f = h) := hv
  have HC : Hid (headCode f = 0) := hc
  have HP : Hid (isPrep h k = true) := hp
  rw [hh] at hz0 hz1 hse
  rw [hh] at hs
  obtain ⟨e2, d, s0, s1, s8, s2, s3, s7, s4, s5, s6'⟩ := prep_ar n C s (h 2) hn hC hC2 hz0 hz1 hs hse
  have E2 : Hid (h 2 = (s : Int)) := e2
  have s6 : Hid (256 + s ≤ n) := s6'
  clear hc hv hp hh hs ho hz0 hz1 hse e2 s6'
  clear hT hL
  have k1 : ¬ (n : Int) < 256 := by omega
  have k2 : (256 : Int) ≤ n := by omega
  have k3 : (256 : Int) ≤ C := by omega
  go_enter Tryd.func19, Tryd.ntmps19
  go_wp2_with (first
    | (refine wpList_alloc_rec rfl 29 rfl (msg (fun _ => 0) none 0 0) w.heap.size rfl zeroMsg ?_; intro W1 hR1 hB1 hz1
       have L1 : Hid (Lies W1 b off n f) := LL.out.below hB1
       have L1' : Hid (Lies W1 b off 256 f) := (L1.out.part 0 256 (by omega)).zero
       have R1 : Hid (Rec19 W1 w.heap.size 0 (msg (fun _ => 0) none 0 0)) := hR1
       have B1 : Hid (Below w.heap.size w W1) := hB1
       clear hR1 hB1 hz1)
    | (go_at_call 27; refine (head_any b off C f _ (TT.out.below B1.out hT0) L1'.out (by omega)).mono ?_; rintro e W2 ⟨rfl, hB2⟩; rw [HV.out, HC.out]
       have R2 : Hid (Rec19 W2 w.heap.size 0 (msg (fun _ => 0) none 0 0)) := R1.out.below hB2
       have L2 : Hid (Lies W2 b off n f) := L1.out.below hB2
       have B2 : Hid (Below w.heap.size w W2) := B1.out.trans (hB2.mono B1.out.size)
       clear hB2)
    | (have _q := B2; clear _q; refine wpList_alloc_rec rfl 26 rfl (hcs fun _ => 0) W2.heap.size rfl zeroHdr ?_; intro W3 hR3 hB3 hz3)
    | (have _q := B2; clear _q; refine wpList_store_rec rfl 26 (.tmp 6) (.tmp 17) rfl W2.heap.size 0 _ (hcs h) rfl rfl hR3 rfl (by kernel_rfl) (hcs_one _) ?_; intro W4 hR4 hB4
       have F4 : Below W2.heap.size W2 W4 := hB3.trans (hB4.below (Nat.le_refl _) (by omega))
       have R4 : Hid (Rec19 W4 w.heap.size 0 (msg (fun _ => 0) none 0 0)) := R2.out.below F4
       have L4 : Hid (Lies W4 b off n f) := L2.out.below F4
       have B4 : Hid (Below w.heap.size w W4) := B2.out.trans (F4.mono B2.out.size)
       have H4 : Hid (Rec19 W4 W2.heap.size 0 (hcs h)) := hR4
       have N4 : Hid (w.heap.size < W2.heap.size) := R2.out.2.2
       clear F4 hR3 hB3 hz3 hB4 hR4 R2 L2 B2)
    | (have _q := R4; clear _q; refine wpList_load_w (by rfl) 26 (.tmp 6) rfl W2.heap.size 0 (hcs h) rfl _ Tryd.underlying26 rfl (by kernel_rfl) H4.out ?_)
    | (have _q := R4; clear _q; go_at_call 32; refine (isPrepare_any h k _).mono ?_; rintro e W5 ⟨rfl, hB5⟩; rw [HP.out]
       have R5 : Hid (Rec19 W5 w.heap.size 0 (msg (fun _ => 0) none 0 0)) := R4.out.below hB5
       have L5 : Hid (Lies W5 b off n f) := L4.out.below hB5
       have B5 : Hid (Below w.heap.size w W5) := B4.out.trans (hB5.mono B4.out.size)
       have H5 : Hid (Rec19 W5 W2.heap.size 0 (hcs h)) := H4.out.below hB5
       have c2 : W5.cell? ⟨W2.heap.size, 2, none⟩ = some (.int .i64 (s : Int)) := by rw [← E2.out]; exact (H5.out.at 2 _ rfl).1
       clear hB5 R4 L4 B4 H4)
    | (have _q := R5; clear _q; go_at_call 37; refine (mopen_no (some ⟨b, off, none⟩) (256 + s) C f _ (TT.out.below B5.out hT0) (Arg.of (L5.out.part 0 (256 + s) (by have := s6.out; omega)).zero) (by have := s6.out; omega) (by have := s6.out; omega) HO.out).mono ?_; rintro e W6 ⟨rfl, hB6⟩
       have R6 : Hid (Rec19 W6 w.heap.size 0 (msg (fun _ => 0) none 0 0)) := R5.out.below hB6
       have B6 : Hid (Below w.heap.size w W6) := B5.out.trans (hB6.mono B5.out.size)
       have c0 : (openCode (256 + s) f == 0) = false := by simpa using HO.out
       generalize openCode (256 + s) f = oc at c0 ⊢
       clear hB6 R5 B5 L5 H5 c2)
    | (have _q := R6; clear _q; refine wpList_alloc_rec rfl 29 rfl (msg (fun _ => 0) none 0 0) W6.heap.size rfl zeroMsg ?_; intro W7 hR7 hB7 hz7)
    | (have _q := R6; clear _q; refine wpList_store_rec rfl 29 (.tmp 8) (.tmp 43) rfl W6.heap.size 0 _ (msg (fun _ => 0) none 0 0) rfl rfl hR7 rfl (by kernel_rfl) (msg_one _ _ _ _) ?_; intro W8 hR8 hB8
       have F8 : Below W6.heap.size W6 W8 := hB7.trans (hB8.below (Nat.le_refl _) (by omega))
       have R8 : Hid (Rec19 W8 w.heap.size 0 (msg (fun _ => 0) none 0 0)) := R6.out.below F8
       have B8 : Hid (Below w.heap.size w W8) := B6.out.trans (F8.mono B6.out.size)
       have M8 : Hid (Rec19 W8 W6.heap.size 0 (msg (fun _ => 0) none 0 0)) := hR8
       clear F8 hR7 hB7 hz7 hR8 hB8 R6 B6)
    | (have _q := R8; clear _q; refine wpList_load_rec rfl 29 (.tmp 8) rfl W6.heap.size 0 (msg (fun _ => 0) none 0 0) rfl _ Tryd.underlying29 rfl (by kernel_rfl) M8.out ?_)
    | (have _q := R8; clear _q; refine wpList_store_rec rfl 29 (.tmp 4) (.tmp 45) rfl w.heap.size 0 _ (msg (fun _ => 0) none 0 0) rfl rfl R8.out rfl (by kernel_rfl) (msg_one _ _ _ _) ?_; intro W9 hR9 hB9))
  have hl := hR9.run_load 29 _ Tryd.underlying29 rfl (by kernel_rfl)
  refine bodyPost_ret (v := MB (fun _ => 0) none 0 false) (by simp [results, Tryd.results19, asAddr, hl]) rfl ⟨rfl, ?_⟩
  exact B8.out.trans (hB9.below (Nat.le_refl _) B8.out.size)
set_option maxRecDepth 100000 in
set_option maxHeartbeats 600000 in
theorem prep_go (b off n C : Nat) (f : Nat → Int) (k : Int) (w : World) (hT : Tab w) (hL : Lies w b off n f) (hn : 256 ≤ n) (hC : n ≤ C) (hC2 : n ≤ 1000000) (hc : headCode f = 0) (hp : isPrep (hdrF f) k = true) (hs : hdrF f 2 ≤ ((n - 256 : Nat) : Int)) (ho : openCode (256 + (hdrF f 2).toNat) f = 0) :
    Calls Tryd.prog 19 #[.slice (some ⟨b, off, none⟩) n C, .int .i64 k] w fun e w' => ∃ g, e = .returned (MB (hdrF f) (some ⟨g, 0, none⟩) (hdrF f 2).toNat true) ∧ w.heap.size ≤ g ∧ IRow w' g .u8 (hdrF f 2).toNat (fun j => f (256 + j)) ∧ Below w.heap.size w w' := by
  have hT0 := hT.2
  have TT : Hid (Tab w) := hT
  have LL : Hid (Lies w b off n f) := hL
  obtain ⟨hz0, hz1⟩ := size_range hc
  obtain ⟨s, hse⟩ : ∃ s : Nat, (hdrF f 2).toNat = s := ⟨_, rfl⟩
  rw [hse] at ho
  have HO : Hid (openCode (256 + s) f = 0) := ho
  have hv : headVal f = hdrF f := by unfold headVal; rw [if_pos hc]
  obtain ⟨h, hh⟩ : ∃ h, hdrF f = h := ⟨_, rfl⟩
  rw [hh] at hv
  rw [hh] at hp
  have HH : Hid (hdrF f = h) := hh
  have HV : Hid (headVal f = h) := hv
  have HC : Hid (headCode f = 0) := hc
  have HP : Hid (isPrep h k = true) := hp
  rw [hh] at hz0 hz1 hse
  rw [hh] at hs
  obtain ⟨e2, d, s0, s1, s8, s2, s3, s7, s4, s5, s6'⟩ := prep_ar n C s (h 2) hn hC hC2 hz0 hz1 hs hse
  have E2 : Hid (h 2 = (s : Int)) := e2
  have s6 : Hid (256 + s ≤ n) := s6'
  have HS : Hid (s = (h 2).toNat) := hse.symm
  clear hc hv hp hs ho hz0 hz1 hse e2 s6'
  rw [hh]
  clear hh
  clear hT hL
  have k1 : ¬ (n : Int) < 256 := by omega
  have k2 : (256 : Int) ≤ n := by omega
  have k3 : (256 : Int) ≤ C := by omega
  go_enter Tryd.func19, Tryd.ntmps19
  go_wp2_with (first
    | (refine wpList_alloc_rec rfl 29 rfl (msg (fun _ => 0) none 0 0) w.heap.size rfl zeroMsg ?_; intro W1 hR1 hB1 hz1
       have L1 : Hid (Lies W1 b off n f) := LL.out.below hB1
       have L1' : Hid (Lies W1 b off 256 f) := (L1.out.part 0 256 (by omega)).zero
       have R1 : Hid (Rec19 W1 w.heap.size 0 (msg (fun _ => 0) none 0 0)) := hR1
       have B1 : Hid (Below w.heap.size w W1) := hB1
       clear hR1 hB1 hz1)
    | (go_at_call 27; refine (head_any b off C f _ (TT.out.below B1.out hT0) L1'.out (by omega)).mono ?_; rintro e W2 ⟨rfl, hB2⟩; rw [HV.out, HC.out]
       have R2 : Hid (Rec19 W2 w.heap.size 0 (msg (fun _ => 0) none 0 0)) := R1.out.below hB2
       have L2 : Hid (Lies W2 b off n f) := L1.out.below hB2
       have B2 : Hid (Below w.heap.size w W2) := B1.out.trans (hB2.mono B1.out.size)
       clear hB2)
    | (have _q := B2; clear _q; refine wpList_alloc_rec rfl 26 rfl (hcs fun _ => 0) W2.heap.size rfl zeroHdr ?_; intro W3 hR3 hB3 hz3)
    | (have _q := B2; clear _q; refine wpList_store_rec rfl 26 (.tmp 6) (.tmp 17) rfl W2.heap.size 0 _ (hcs h) rfl rfl hR3 rfl (by kernel_rfl) (hcs_one _) ?_; intro W4 hR4 hB4
       have F4 : Below W2.heap.size W2 W4 := hB3.trans (hB4.below (Nat.le_refl _) (by omega))
       have R4 : Hid (Rec19 W4 w.heap.size 0 (msg (fun _ => 0) none 0 0)) := R2.out.below F4
       have L4 : Hid (Lies W4 b off n f) := L2.out.below F4
       have B4 : Hid (Below w.heap.size w W4) := B2.out.trans (F4.mono B2.out.size)
       have H4 : Hid (Rec19 W4 W2.heap.size 0 (hcs h)) := hR4
       have N4 : Hid (w.heap.size < W2.heap.size) := R2.out.2.2
       clear F4 hR3 hB3 hz3 hB4 hR4 R2 L2 B2)
    | (have _q := R4; clear _q; refine wpList_load_w (by rfl) 26 (.tmp 6) rfl W2.heap.size 0 (hcs h) rfl _ Tryd.underlying26 rfl (by kernel_rfl) H4.out ?_)
    | (have _q := R4; clear _q; go_at_call 32; refine (isPrepare_any h k _).mono ?_; rintro e W5 ⟨rfl, hB5⟩; rw [HP.out]
       have R5 : Hid (Rec19 W5 w.heap.size 0 (msg (fun _ => 0) none 0 0)) := R4.out.below hB5
       have L5 : Hid (Lies W5 b off n f) := L4.out.below hB5
       have B5 : Hid (Below w.heap.size w W5) := B4.out.trans (hB5.mono B4.out.size)
       have H5 : Hid (Rec19 W5 W2.heap.size 0 (hcs h)) := H4.out.below hB5
       have c2 : W5.cell? ⟨W2.heap.size, 2, none⟩ = some (.int .i64 (s : Int)) := by rw [← E2.out]; exact (H5.out.at 2 _ rfl).1
       clear hB5 R4 L4 B4 H4)
    | (have _q := R5; clear _q; go_at_call 37; refine (mopen_ok (some ⟨b, off, none⟩) (256 + s) C f _ (TT.out.below B5.out hT0) (Arg.of (L5.out.part 0 (256 + s) (by have := s6.out; omega)).zero) (by have := s6.out; omega) (by have := s6.out; omega) HO.out).mono ?_; rintro e W6 ⟨g, he, hg, hG, hB6⟩
       rw [Nat.add_sub_cancel_left] at he hG
       subst he
       rw [HH.out]
       have R6 : Hid (Rec19 W6 w.heap.size 0 (msg (fun _ => 0) none 0 0)) := R5.out.below hB6
       have B6 : Hid (Below w.heap.size w W6) := B5.out.trans (hB6.mono B5.out.size)
       have G6 : Hid (IRow W6 g .u8 s (fun j => f (256 + j))) := hG
       have N6 : Hid (W2.heap.size < g ∧ g < W6.heap.size) := ⟨Nat.lt_of_lt_of_le H5.out.2.2 hg, hG.2.2⟩
       clear hB6 R5 B5 L5 H5 c2 hG)
    | (have _q := R6; clear _q; refine wpList_alloc_rec rfl 29 rfl (msg (fun _ => 0) none 0 0) W6.heap.size rfl zeroMsg ?_; intro W7 hR7 hB7 hz7)
    | (have _q := R6; clear _q; refine wpList_store_rec rfl 29 (.tmp 8) (.tmp 43) rfl W6.heap.size 0 _ (msg h (some ⟨g, 0, none⟩) s s) rfl rfl hR7 rfl (by kernel_rfl) (msg_one _ _ _ _) ?_; intro W8 hR8 hB8
       have F8 : Below W6.heap.size W6 W8 := hB7.trans (hB8.below (Nat.le_refl _) (by omega))
       have R8 : Hid (Rec19 W8 w.heap.size 0 (msg (fun _ => 0) none 0 0)) := R6.out.below F8
       have B8 : Hid (Below w.heap.size w W8) := B6.out.trans (F8.mono B6.out.size)
       have G8 : Hid (IRow W8 g .u8 s (fun j => f (256 + j))) := G6.out.below F8
       have M8 : Hid (Rec19 W8 W6.heap.size 0 (msg h (some ⟨g, 0, none⟩) s s)) := hR8
       clear F8 hR7 hB7 hz7 hR8 hB8 R6 B6 G6)
    | (have _q := R8; clear _q; refine wpList_load_rec rfl 29 (.tmp 8) rfl W6.heap.size 0 (msg h (some ⟨g, 0, none⟩) s s) rfl _ Tryd.underlying29 rfl (by kernel_rfl) M8.out ?_)
    | (have _q := R8; clear _q; refine wpList_store_rec rfl 29 (.tmp 4) (.tmp 45) rfl w.heap.size 0 _ (msg h (some ⟨g, 0, none⟩) s s) rfl rfl R8.out rfl (by kernel_rfl) (msg_one _ _ _ _) ?_; intro W9 hR9 hB9))
  have hl := hR9.run_load 29 _ Tryd.underlying29 rfl (by kernel_rfl)
  have n4 := N4.out
  have n6 := N6.out
  refine bodyPost_ret (v := MB h (some ⟨g, 0, none⟩) s true) (by simp [results, Tryd.results19, asAddr, hl]) rfl ⟨g, by rw [HS.out], by omega, ?_, B8.out.trans (hB9.below (Nat.le_refl _) B8.out.size)⟩
  rw [← HS.out]
  exact G8.out.but hB9 (by omega)
/-- Prepare, whatever it is handed. -/
theorem prep_no (a : Option Addr) (n C : Nat) (f : Nat → Int) (k : Int) (w : World) (hT : Tab w) (hA : Arg w a n f) (hC : n ≤ C) (hm : n ≤ 1000000) (hk : prepOK n f k = false) :
    Calls Tryd.prog 19 #[.slice a n C, .int .i64 k] w fun e w' => e = .returned (MB (fun _ => 0) none 0 false) ∧ Below w.heap.size w w' := by
  by_cases h1 : n < 256
  · exact prep_few a n C k w h1
  rcases hA with ⟨h, _⟩ | ⟨_, b, off, rfl, hl⟩
  · omega
  by_cases h2 : headCode f = 0
  · by_cases h3 : isPrep (hdrF f) k = true
    · by_cases h4 : hdrF f 2 ≤ ((n - 256 : Nat) : Int)
      · by_cases h5 : openCode (256 + (hdrF f 2).toNat) f = 0
        · rw [prepOK_iff.2 ⟨by omega, h2, h3, h4, h5⟩] at hk
          cases hk
        · exact prep_shut b off n C f k w hT hl (by omega) hC hm h2 h3 h4 h5
      · exact prep_long b off n C f k w hT hl (by omega) hC hm h2 h3 (by omega)
    · exact prep_not b off n C f k w hT hl (by omega) hC h2 (by simpa using h3)
  · exact prep_head b off n C f k w hT hl (by omega) hC _ rfl h2
theorem prep_ok (a : Option Addr) (n C : Nat) (f : Nat → Int) (k : Int) (w : World) (hT : Tab w) (hA : Arg w a n f) (hC : n ≤ C) (hm : n ≤ 1000000) (hk : prepOK n f k = true) :
    Calls Tryd.prog 19 #[.slice a n C, .int .i64 k] w fun e w' => ∃ g, e = .returned (MB (hdrF f) (some ⟨g, 0, none⟩) (hdrF f 2).toNat true) ∧ w.heap.size ≤ g ∧ IRow w' g .u8 (hdrF f 2).toNat (fun j => f (256 + j)) ∧ Below w.heap.size w w' := by
  obtain ⟨h1, h2, h3, h4, h5⟩ := prepOK_iff.1 hk
  rcases hA with ⟨h, _⟩ | ⟨_, b, off, rfl, hl⟩
  · omega
  exact prep_go b off n C f k w hT hl h1 hC hm h2 h3 h4 h5
end Go.Proofs.YtfpgkckcifjkcaaDoor
namespace Go.Proofs.YtfpgkckcifjkcaaDoor
open Go.RowKit
/-- A slot's bytes of a prepare. -/
def slotF (h : Nat → Int) (n : Nat) (f : Nat → Int) (j : Nat) : Int := if j < 256 + n then msgF (upd h 2 (n : Nat)) n f j else 0
theorem slot_over (h : Nat → Int) (n : Nat) (f : Nat → Int) (j : Nat) : over (fun _ => 0) 0 (256 + n) (msgF (upd h 2 (n : Nat)) n f) j = slotF h n f j := by
  unfold over slotF
  by_cases e : j < 256 + n
  · rw [if_pos e, if_pos ⟨Nat.zero_le _, by omega⟩, Nat.sub_zero]
  · rw [if_neg e, if_neg (by omega)]
theorem msgF_byte (h : Nat → Int) (n : Nat) (f : Nat → Int) (hf : ∀ j, j < n → 0 ≤ f j ∧ f j < 256) (j : Nat) (hj : j < 256 + n) : 0 ≤ msgF h n f j ∧ msgF h n f j < 256 := by
  unfold msgF
  by_cases e : j < 256
  · rw [if_pos e]; exact headF_byte h _ (fun j _ => sealF_byte _ _ j) j
  · rw [if_neg e]; exact hf _ (by omega)
theorem slotF_byte (h : Nat → Int) (n : Nat) (f : Nat → Int) (hf : ∀ j, j < n → 0 ≤ f j ∧ f j < 256) (j : Nat) : 0 ≤ slotF h n f j ∧ slotF h n f j < 256 := by
  unfold slotF
  by_cases e : j < 256 + n
  · rw [if_pos e]; exact msgF_byte _ n f hf j e
  · rw [if_neg e]; omega
set_option maxRecDepth 100000 in
set_option maxHeartbeats 400000 in
theorem sbytes_long (h : Nat → Int) (a : Option Addr) (n C : Nat) (w : World) (hn : 1024 < n) :
    Calls Tryd.prog 9 #[.agg (msg h a n C).toArray] w fun e w' => e = .returned (.tuple #[.slice none 0 0, .int .i64 3]) ∧ Below w.heap.size w w' := by
  go_enter Tryd.func9, Tryd.ntmps9
  go_wp2_with (first
    | (refine wpList_box_rec rfl 29 (.tmp 0) rfl (msg h a n C) rfl w.heap.size rfl ?_; intro W0 R0 B0 z0
       have RH : Hid (Rec19 W0 w.heap.size 0 (msg h a n C)) := R0
       have BH : Hid (Below w.heap.size w W0) := B0
       clear R0 B0)
    | (refine wpList_load_rec rfl 29 (.tmp 1) rfl w.heap.size 0 (msg h a n C) rfl _ Tryd.underlying29 rfl (by kernel_rfl) RH.out ?_)
    | (go_at_call 31; refine (mseal_long h a n C _ hn).mono ?_; rintro e W1 ⟨rfl, B1⟩))
  go_ret2
  exact ⟨rfl, BH.out.trans (B1.mono BH.out.size)⟩
set_option maxRecDepth 100000 in
set_option maxHeartbeats 400000 in
theorem sbytes_arg (h : Nat → Int) (a : Option Addr) (n C : Nat) (w : World) (hn : n ≤ 1024) (hT : Tab w) (hk : okH (upd h 2 n) = false) :
    Calls Tryd.prog 9 #[.agg (msg h a n C).toArray] w fun e w' => e = .returned (.tuple #[.slice none 0 0, .int .i64 2]) ∧ Below w.heap.size w w' := by
  have hT0 := hT.2
  have TT : Hid (Tab w) := hT
  have HK : Hid (okH (upd h 2 n) = false) := hk
  clear hT hk
  go_enter Tryd.func9, Tryd.ntmps9
  go_wp2_with (first
    | (refine wpList_box_rec rfl 29 (.tmp 0) rfl (msg h a n C) rfl w.heap.size rfl ?_; intro W0 R0 B0 z0
       have RH : Hid (Rec19 W0 w.heap.size 0 (msg h a n C)) := R0
       have BH : Hid (Below w.heap.size w W0) := B0
       clear R0 B0)
    | (refine wpList_load_rec rfl 29 (.tmp 1) rfl w.heap.size 0 (msg h a n C) rfl _ Tryd.underlying29 rfl (by kernel_rfl) RH.out ?_)
    | (go_at_call 31; refine (mseal_arg h a n C _ hn (TT.out.below BH.out hT0) HK.out).mono ?_; rintro e W1 ⟨rfl, B1⟩))
  go_ret2
  exact ⟨rfl, BH.out.trans (B1.mono BH.out.size)⟩
set_option maxRecDepth 100000 in
set_option maxHeartbeats 400000 in
theorem sbytes_not (h : Nat → Int) (a : Option Addr) (n C : Nat) (f : Nat → Int) (w : World) (hn : n ≤ 1024) (hT : Tab w) (hA : Arg w a n f) (hC : n ≤ C) (hW : Words h) (hk : okH (upd h 2 (n : Nat)) = true) (hp : isPrep h (ofI (h 5)) = false) :
    Calls Tryd.prog 9 #[.agg (msg h a n C).toArray] w fun e w' => e = .returned (.tuple #[.slice none 0 0, .int .i64 2]) ∧ Below w.heap.size w w' := by
  have hT0 := hT.2
  have TT : Hid (Tab w) := hT
  have HK : Hid (okH (upd h 2 (n : Nat)) = true) := hk
  have HA : Hid (Arg w a n f) := hA
  have HW : Hid (Words h) := hW
  have HP : Hid (isPrep h (ofI (h 5)) = false) := hp
  clear hT hk hA hW hp
  go_enter Tryd.func9, Tryd.ntmps9
  go_wp2_with (first
    | (refine wpList_box_rec rfl 29 (.tmp 0) rfl (msg h a n C) rfl w.heap.size rfl ?_; intro W0 R0 B0 z0
       have RH : Hid (Rec19 W0 w.heap.size 0 (msg h a n C)) := R0
       have BH : Hid (Below w.heap.size w W0) := B0
       clear R0 B0)
    | (refine wpList_load_rec rfl 29 (.tmp 1) rfl w.heap.size 0 (msg h a n C) rfl _ Tryd.underlying29 rfl (by kernel_rfl) RH.out ?_)
    | (go_at_call 31; refine (mseal_ok h a n C f _ hn (TT.out.below BH.out hT0) (HA.out.below BH.out) hC HW.out HK.out).mono ?_; rintro e W1 ⟨g, rfl, hg, hR, hB⟩
       have R1 : Rec19 W1 w.heap.size 0 (msg h a n C) := RH.out.below hB
       have E1 : Below w.heap.size w W1 := BH.out.trans (hB.mono BH.out.size)
       have G1 : Hid (IRow W1 g .u8 (256 + n) (msgF (upd h 2 (n : Nat)) n f)) := hR
       have c5 := (R1.at 5 (.int .i64 (h 5)) rfl).1
       have r5 := R1.head.1
       clear hB hR))
  refine wp_region_noPanic ?_
  refine wp_region_held_drew (S := fun W' => W'.cell? ⟨w.heap.size, 5, none⟩ = some (.int .i64 (h 5)) ∧ W'.rangeAt w.heap.size 0 (hcs h)) (by kernel_rfl) ?_ (fun hHeld => ?_)
  · exact ⟨c5, r5⟩
  refine take_at (i := 0) (v := ?_) (some 15) rfl rfl (by kernel_rfl) (by kernel_rfl) (by kernel_rfl) (fun _ _ _ h => h) (Or.inl ⟨by rfl, ?_⟩) (by assumption) ?_
  rotate_left
  · (intro w hSw; (try dsimp only at hSw); go_simp; try with_reducible rfl)
  simp only [Act.put, List.setIfInBounds_toArray, List.set_cons_zero, List.set_cons_succ]
  refine take_at (i := 1) (v := _) (some 16) rfl rfl (by kernel_rfl) (by kernel_rfl) (by kernel_rfl) (fun _ _ _ h => h) (yieldsIf_load_mid (by rfl) _ _ rfl _ _ rfl _ _ (fun _ h => h.2) Tryd.underlying26 rfl (by kernel_rfl)) (by assumption) ?_
  simp only [Act.put, List.setIfInBounds_toArray, List.set_cons_zero, List.set_cons_succ]
  refine take_at (i := 2) (v := ?_) (some 17) rfl rfl (by kernel_rfl) (by kernel_rfl) (by kernel_rfl) (fun _ _ _ h => h) (Or.inl ⟨by rfl, ?_⟩) (by assumption) ?_
  rotate_left
  · (intro w hSw; (try dsimp only at hSw); go_simp; try with_reducible rfl)
  simp only [Act.put, List.setIfInBounds_toArray, List.set_cons_zero, List.set_cons_succ]
  refine take_at (i := 3) (v := ?_) (some 18) rfl rfl (by kernel_rfl) (by kernel_rfl) (by kernel_rfl) (fun _ _ _ h => h) (Or.inl ⟨by rfl, ?_⟩) (by assumption) ?_
  rotate_left
  · (intro w hSw; (try dsimp only at hSw); go_simp; try with_reducible rfl)
  simp only [Act.put, List.setIfInBounds_toArray, List.set_cons_zero, List.set_cons_succ]
  refine take_at (i := 4) (v := ?_) (some 19) rfl rfl (by kernel_rfl) (by kernel_rfl) (by kernel_rfl) (fun _ _ _ h => h) (Or.inl ⟨by rfl, ?_⟩) (by assumption) ?_
  rotate_left
  · (intro w hSw; (try dsimp only at hSw); go_simp; try with_reducible rfl)
  simp only [Act.put, List.setIfInBounds_toArray, List.set_cons_zero, List.set_cons_succ]
  refine call_at (i := 5) (some 20) 14 _ _ rfl rfl rfl (by rfl) (by kernel_rfl) #[.int .i64 (h 5)] rfl Tryd.func14 (by kernel_rfl) (by kernel_rfl) ?_
  refine (of_any (h 5) _).mono ?_
  rintro e w3 ⟨rfl, rfl⟩
  refine ⟨_, rfl, hHeld, fun hHeld => ?_⟩
  simp only [Act.put, List.setIfInBounds_toArray, List.set_cons_zero, List.set_cons_succ]
  refine call_at (i := 6) (some 21) 32 _ _ rfl rfl rfl (by rfl) (by kernel_rfl) #[.agg (hcs h).toArray, .int .i64 (ofI (h 5))] rfl Tryd.func32 (by kernel_rfl) (by kernel_rfl) ?_
  refine (isPrepare_any h (ofI (h 5)) _).mono ?_
  rintro e W2 ⟨rfl, B2d⟩
  have z2 := R1.2.2
  have B2 : Below W1.heap.size W1 W2 := ((Below.refl W1.heap.size W1).drew).trans B2d
  have R2 : Rec19 W2 w.heap.size 0 (msg h a n C) := R1.below B2
  rw [HP.out]
  refine ⟨_, rfl, ⟨(R2.at 5 (.int .i64 (h 5)) rfl).1, R2.head.1⟩, fun hHeld => ?_⟩
  simp only [Act.put, List.setIfInBounds_toArray, List.set_cons_zero, List.set_cons_succ]
  refine take_at (i := 7) (v := ?_) (some 22) rfl rfl (by kernel_rfl) (by kernel_rfl) (by kernel_rfl) (fun _ _ _ h => h) (Or.inl ⟨by rfl, ?_⟩) (by assumption) ?_
  rotate_left
  · (intro w hSw; (try dsimp only at hSw); go_simp; try with_reducible rfl)
  simp only [Act.put, List.setIfInBounds_toArray, List.set_cons_zero, List.set_cons_succ]
  refine wpAnyH_done (by kernel_rfl) ?_ _
  refine NoPanic.normal ?_
  go_wp2_with fail
  go_ret2
  exact ⟨rfl, E1.trans (B2.mono E1.size)⟩
set_option maxRecDepth 100000 in
set_option maxHeartbeats 400000 in
theorem sbytes_ok (h : Nat → Int) (a : Option Addr) (n C : Nat) (f : Nat → Int) (w : World) (hn : n ≤ 1024) (hT : Tab w) (hA : Arg w a n f) (hC : n ≤ C) (hW : Words h) (hk : okH (upd h 2 (n : Nat)) = true) (hp : isPrep h (ofI (h 5)) = true) :
    Calls Tryd.prog 9 #[.agg (msg h a n C).toArray] w fun e w' => ∃ g, e = .returned (.tuple #[.slice (some ⟨g, 0, none⟩) 1280 1280, .int .i64 0]) ∧ w.heap.size ≤ g ∧ IRow w' g .u8 1280 (slotF h n f) ∧ Below w.heap.size w w' := by
  have hT0 := hT.2
  have TT : Hid (Tab w) := hT
  have HK : Hid (okH (upd h 2 (n : Nat)) = true) := hk
  have HA : Hid (Arg w a n f) := hA
  have HW : Hid (Words h) := hW
  have HP : Hid (isPrep h (ofI (h 5)) = true) := hp
  clear hT hk hA hW hp
  go_enter Tryd.func9, Tryd.ntmps9
  go_wp2_with (first
    | (refine wpList_box_rec rfl 29 (.tmp 0) rfl (msg h a n C) rfl w.heap.size rfl ?_; intro W0 R0 B0 z0
       have RH : Hid (Rec19 W0 w.heap.size 0 (msg h a n C)) := R0
       have BH : Hid (Below w.heap.size w W0) := B0
       clear R0 B0)
    | (refine wpList_load_rec rfl 29 (.tmp 1) rfl w.heap.size 0 (msg h a n C) rfl _ Tryd.underlying29 rfl (by kernel_rfl) RH.out ?_)
    | (go_at_call 31; refine (mseal_ok h a n C f _ hn (TT.out.below BH.out hT0) (HA.out.below BH.out) hC HW.out HK.out).mono ?_; rintro e W1 ⟨g, rfl, hg, hR, hB⟩
       have R1 : Rec19 W1 w.heap.size 0 (msg h a n C) := RH.out.below hB
       have E1 : Below w.heap.size w W1 := BH.out.trans (hB.mono BH.out.size)
       have G1 : Hid (IRow W1 g .u8 (256 + n) (msgF (upd h 2 (n : Nat)) n f)) := hR
       have c5 := (R1.at 5 (.int .i64 (h 5)) rfl).1
       have r5 := R1.head.1
       clear hB hR))
  refine wp_region_noPanic ?_
  refine wp_region_held_drew (S := fun W' => W'.cell? ⟨w.heap.size, 5, none⟩ = some (.int .i64 (h 5)) ∧ W'.rangeAt w.heap.size 0 (hcs h)) (by kernel_rfl) ?_ (fun hHeld => ?_)
  · exact ⟨c5, r5⟩
  refine take_at (i := 0) (v := ?_) (some 15) rfl rfl (by kernel_rfl) (by kernel_rfl) (by kernel_rfl) (fun _ _ _ h => h) (Or.inl ⟨by rfl, ?_⟩) (by assumption) ?_
  rotate_left
  · (intro w hSw; (try dsimp only at hSw); go_simp; try with_reducible rfl)
  simp only [Act.put, List.setIfInBounds_toArray, List.set_cons_zero, List.set_cons_succ]
  refine take_at (i := 1) (v := _) (some 16) rfl rfl (by kernel_rfl) (by kernel_rfl) (by kernel_rfl) (fun _ _ _ h => h) (yieldsIf_load_mid (by rfl) _ _ rfl _ _ rfl _ _ (fun _ h => h.2) Tryd.underlying26 rfl (by kernel_rfl)) (by assumption) ?_
  simp only [Act.put, List.setIfInBounds_toArray, List.set_cons_zero, List.set_cons_succ]
  refine take_at (i := 2) (v := ?_) (some 17) rfl rfl (by kernel_rfl) (by kernel_rfl) (by kernel_rfl) (fun _ _ _ h => h) (Or.inl ⟨by rfl, ?_⟩) (by assumption) ?_
  rotate_left
  · (intro w hSw; (try dsimp only at hSw); go_simp; try with_reducible rfl)
  simp only [Act.put, List.setIfInBounds_toArray, List.set_cons_zero, List.set_cons_succ]
  refine take_at (i := 3) (v := ?_) (some 18) rfl rfl (by kernel_rfl) (by kernel_rfl) (by kernel_rfl) (fun _ _ _ h => h) (Or.inl ⟨by rfl, ?_⟩) (by assumption) ?_
  rotate_left
  · (intro w hSw; (try dsimp only at hSw); go_simp; try with_reducible rfl)
  simp only [Act.put, List.setIfInBounds_toArray, List.set_cons_zero, List.set_cons_succ]
  refine take_at (i := 4) (v := ?_) (some 19) rfl rfl (by kernel_rfl) (by kernel_rfl) (by kernel_rfl) (fun _ _ _ h => h) (Or.inl ⟨by rfl, ?_⟩) (by assumption) ?_
  rotate_left
  · (intro w hSw; (try dsimp only at hSw); go_simp; try with_reducible rfl)
  simp only [Act.put, List.setIfInBounds_toArray, List.set_cons_zero, List.set_cons_succ]
  refine call_at (i := 5) (some 20) 14 _ _ rfl rfl rfl (by rfl) (by kernel_rfl) #[.int .i64 (h 5)] rfl Tryd.func14 (by kernel_rfl) (by kernel_rfl) ?_
  refine (of_any (h 5) _).mono ?_
  rintro e w3 ⟨rfl, rfl⟩
  refine ⟨_, rfl, hHeld, fun hHeld => ?_⟩
  simp only [Act.put, List.setIfInBounds_toArray, List.set_cons_zero, List.set_cons_succ]
  refine call_at (i := 6) (some 21) 32 _ _ rfl rfl rfl (by rfl) (by kernel_rfl) #[.agg (hcs h).toArray, .int .i64 (ofI (h 5))] rfl Tryd.func32 (by kernel_rfl) (by kernel_rfl) ?_
  refine (isPrepare_any h (ofI (h 5)) _).mono ?_
  rintro e W2 ⟨rfl, B2d⟩
  have z2 := R1.2.2
  have B2 : Below W1.heap.size W1 W2 := ((Below.refl W1.heap.size W1).drew).trans B2d
  have R2 : Rec19 W2 w.heap.size 0 (msg h a n C) := R1.below B2
  rw [HP.out]
  refine ⟨_, rfl, ⟨(R2.at 5 (.int .i64 (h 5)) rfl).1, R2.head.1⟩, fun hHeld => ?_⟩
  simp only [Act.put, List.setIfInBounds_toArray, List.set_cons_zero, List.set_cons_succ]
  refine take_at (i := 7) (v := ?_) (some 22) rfl rfl (by kernel_rfl) (by kernel_rfl) (by kernel_rfl) (fun _ _ _ h => h) (Or.inl ⟨by rfl, ?_⟩) (by assumption) ?_
  rotate_left
  · (intro w hSw; (try dsimp only at hSw); go_simp; try with_reducible rfl)
  simp only [Act.put, List.setIfInBounds_toArray, List.set_cons_zero, List.set_cons_succ]
  refine wpAnyH_done (by kernel_rfl) ?_ _
  refine NoPanic.normal ?_
  have E2 : Below w.heap.size w W2 := E1.trans (B2.mono E1.size)
  have G2 : Hid (IRow W2 g .u8 (256 + n) (msgF (upd h 2 (n : Nat)) n f)) := G1.out.below B2
  clear c5 r5 R1 R2 E1 B2 B2d G1 hHeld RH BH z0 z2
  go_wp2_with (first
    | (refine wpList_make rfl (.const (.int .i64 1280)) (.const (.int .i64 1280)) rfl 1280 W2.heap.size rfl _ rfl rfl (by omega) (by omega) ?_; intro X hRX hBX hzX
       have GX := G2.out.below hBX
       obtain ⟨Y, hcY, hRY, hBY, hzY⟩ := copy_row X W2.heap.size 1280 0 1280 1280 (256 + n) (256 + n) (256 + n) (some ⟨g, 0, none⟩) (msgF (upd h 2 (n : Nat)) n f) (fun _ => 0) hRX (by omega) (Nat.min_eq_left (by omega)).symm (Arg.of (GX.lies (msgF_byte _ n f HA.out.bytes))))
    | (refine wpList_copy_go rfl (.tmp 24) (.tmp 25) 27 27 rfl _ _ rfl rfl hcY ?_))
  go_ret2
  exact ⟨W2.heap.size, rfl, E2.size, hRY.congr (fun j _ => slot_over h n f j), E2.trans ((hBX.mono E2.size).trans (hBY.below E2.size (by have := E2.size; omega)))⟩
end Go.Proofs.YtfpgkckcifjkcaaDoor
namespace Go.Proofs.YtfpgkckcifjkcaaDoor
open Go.RowKit
/-- The header that says that the slot n is unwritten. -/
def unwH (n : Int) (j : Nat) : Int := if j = 0 then 1 else if j = 14 then n else 0
/-- Its bytes. -/
def unwF (n : Int) : Nat → Int := msgF (upd (unwH n) 2 ((0 : Nat) : Int)) 0 (fun _ => 0)
theorem unw_words (n : Int) : Words (unwH n) := ⟨by unfold Word unwH; simp, by unfold Word unwH; simp, by unfold Word unwH; simp⟩
theorem isSl_iff {n : Int} : isSl n = true ↔ 0 ≤ n ∧ n < 16 := by unfold isSl; simp
theorem unw_ok {n : Int} (h : isSl n = true) : okH (upd (unwH n) 2 ((0 : Nat) : Int)) = true := by
  obtain ⟨h0, h1⟩ := isSl_iff.1 h
  rw [okH_iff]
  intro k hk
  unfold within
  rw [Bool.and_eq_true, decide_eq_true_iff, decide_eq_true_iff]
  match k, hk with
  | 0, _ | 1, _ | 2, _ | 3, _ | 4, _ | 5, _ | 6, _ | 7, _ | 8, _ | 9, _ | 10, _ | 12, _ => exact ⟨by simp [upd, unwH, pos, fle], by simp [upd, unwH, pos, fmo]⟩
  | 11, _ => exact ⟨h0, by show n ≤ 1073741824; omega⟩
  | k + 13, hk => omega
theorem unw_build (n : Int) : (hcs (unwH n)) = [.int .i64 1, .int .i64 0, .int .i64 0, .int .i64 0, .int .i64 0, .int .i64 0, .int .i64 0, .int .i64 0, .int .i64 0, .int .u64 0, .int .u64 0, .int .i64 0, .int .i64 0, .int .u64 0, .int .i64 n, .int .i64 0] := rfl
theorem unwF_byte (n : Int) (j : Nat) (hj : j < 256) : 0 ≤ unwF n j ∧ unwF n j < 256 := msgF_byte _ 0 _ (fun j h => by omega) j (by omega)
set_option maxRecDepth 100000 in
set_option maxHeartbeats 400000 in
theorem unwritten_no (n : Int) (w : World) (hn : isSl n = false) :
    Calls Tryd.prog 11 #[.int .i64 n] w fun e w' => e = .returned (.tuple #[.slice none 0 0, .int .i64 5]) ∧ w' = w := by
  go_enter Tryd.func11, Tryd.ntmps11
  go_wp2_with (first
    | (go_at_call 35; refine (isSlot_any n _).mono ?_; rintro e w3 ⟨rfl, rfl⟩; rw [hn]))
  go_ret2
  exact ⟨rfl, rfl⟩
set_option maxRecDepth 100000 in
set_option maxHeartbeats 400000 in
theorem unwritten_ok (n : Int) (w : World) (hT : Tab w) (hn : isSl n = true) :
    Calls Tryd.prog 11 #[.int .i64 n] w fun e w' => ∃ g, e = .returned (.tuple #[.slice (some ⟨g, 0, none⟩) 256 256, .int .i64 0]) ∧ w.heap.size ≤ g ∧ IRow w' g .u8 256 (unwF n) ∧ Below w.heap.size w w' := by
  have TT : Hid (Tab w) := hT
  have HN : Hid (isSl n = true) := hn
  clear hT hn
  go_enter Tryd.func11, Tryd.ntmps11
  go_wp2_with (first
    | (go_at_call 35; refine (isSlot_any n _).mono ?_; rintro e w3 ⟨rfl, rfl⟩; rw [HN.out])
    | (refine wpList_build_to rfl 26 _ rfl (hcs (unwH n)).toArray (by kernel_rfl) ?_)
    | (refine wpList_build_to rfl 29 _ rfl (msg (unwH n) none 0 0).toArray (by kernel_rfl) ?_)
    | (go_at_call 31; refine (mseal_ok (unwH n) none 0 0 (fun _ => 0) _ (by omega) TT.out (.inl ⟨rfl, .inl rfl⟩) (Nat.le_refl _) (unw_words n) (unw_ok HN.out)).mono ?_; rintro e W1 ⟨g, rfl, hg, hR, hB⟩))
  go_ret2
  exact ⟨g, rfl, hg, hR, hB⟩
/-- Do bytes say that the slot k is unwritten? -/
def isUnw (n : Nat) (f : Nat → Int) (k : Int) : Bool := isSl k && decide (txtN n f = txtN 256 (unwF k))
set_option maxRecDepth 100000 in
set_option maxHeartbeats 400000 in
theorem isUnwritten_any (a : Option Addr) (n C : Nat) (f : Nat → Int) (k : Int) (w : World) (hT : Tab w) (hA : Arg w a n f) :
    Calls Tryd.prog 62 #[.slice a n C, .int .i64 k] w fun e w' => e = .returned (.bool (isUnw n f k)) ∧ Below w.heap.size w w' := by
  have TT : Hid (Tab w) := hT
  have HA : Hid (Arg w a n f) := hA
  clear hT hA
  by_cases hk : isSl k = true
  · rw [show isUnw n f k = decide (txtN n f = txtN 256 (unwF k)) from by unfold isUnw; rw [hk]; rfl]
    have HK : Hid (isSl k = true) := hk
    clear hk
    obtain ⟨x, hx⟩ : ∃ x, txtN n f = x := ⟨_, rfl⟩
    obtain ⟨y, hy⟩ : ∃ y, txtN 256 (unwF k) = y := ⟨_, rfl⟩
    have HX : Hid (txtN n f = x) := hx
    have HY : Hid (txtN 256 (unwF k) = y) := hy
    rw [hx, hy]
    clear hx hy
    go_enter Tryd.func62, Tryd.ntmps62
    go_wp2_with (first
      | (go_at_call 11; refine (unwritten_ok k _ TT.out HK.out).mono ?_; rintro e W1 ⟨g, rfl, hg, hR, hB⟩
         have c1 := conv_arg W1 a n C f (HA.out.below hB)
         have c2 := conv_arg W1 (some ⟨g, 0, none⟩) 256 256 (unwF k) (Arg.of (hR.lies (unwF_byte k)))
         have BB : Hid (Below w.heap.size w W1) := hB
         clear hB hR
         rw [HX.out] at c1
         rw [HY.out] at c2))
    rw [bytes_beq]
    go_ret
    exact ⟨rfl, BB.out⟩
  · have hk' : isSl k = false := by simpa using hk
    rw [show isUnw n f k = false from by unfold isUnw; rw [hk']; rfl]
    have HK : Hid (isSl k = false) := hk'
    clear hk hk'
    go_enter Tryd.func62, Tryd.ntmps62
    go_wp2_with (first
      | (go_at_call 11; refine (unwritten_no k _ HK.out).mono ?_; rintro e W1 ⟨rfl, rfl⟩))
    go_ret
    exact ⟨rfl, Below.refl _ _⟩
end Go.Proofs.YtfpgkckcifjkcaaDoor
namespace Go.Proofs.YtfpgkckcifjkcaaDoor
open Go.RowKit
/-- What Head answers of any bytes. -/
def headC (n : Nat) (f : Nat → Int) : Int := if n = 256 then headCode f else 4
def headV (n : Nat) (f : Nat → Int) : Nat → Int := if n = 256 then headVal f else fun _ => 0
theorem headC_zero {n : Nat} {f : Nat → Int} (h : headC n f = 0) : n = 256 ∧ headCode f = 0 := by
  unfold headC at h
  by_cases e : n = 256
  · rw [if_pos e] at h; exact ⟨e, h⟩
  · rw [if_neg e] at h; omega
theorem headV_zero {n : Nat} {f : Nat → Int} (h : headC n f = 0) : headV n f = hdrF f := by
  obtain ⟨e, h0⟩ := headC_zero h
  unfold headV
  rw [if_pos e]
  unfold headVal
  rw [if_pos h0]
theorem head_gen (a : Option Addr) (n C : Nat) (f : Nat → Int) (w : World) (hT : Tab w) (hA : Arg w a n f) (hC : n ≤ C) :
    Calls Tryd.prog 27 #[.slice a n C] w fun e w' => e = .returned (HE (headV n f) (headC n f)) ∧ Below w.heap.size w w' := by
  by_cases e : n = 256
  · subst e
    rcases hA with ⟨h, _⟩ | ⟨_, b, off, rfl, hl⟩
    · omega
    have := head_any b off C f w hT hl hC
    unfold headV headC
    rw [if_pos rfl, if_pos rfl]
    exact this
  · unfold headV headC
    rw [if_neg e, if_neg e]
    exact head_len a n C w e
/-- What is found as a slot's header. -/
def fhK (n : Nat) (f : Nat → Int) (k : Int) : Int := if headC n f = 0 then (if isPrep (hdrF f) k = true then 2 else if isUnw n f k = true then 1 else 0) else 0
def fhV (n : Nat) (f : Nat → Int) (k : Int) : List Value := if fhK n f k = 2 then fnd 2 (hdrF f 5) (hdrF f 3) f else fnd (fhK n f k) 0 0 (fun _ => 0)
/-- What is found as its prepare. -/
def fpV (n : Nat) (f : Nat → Int) (k : Int) : List Value := if prepOK n f k = true then fnd 2 (hdrF f 5) (hdrF f 3) f else fnd 0 0 0 (fun _ => 0)
set_option maxRecDepth 100000 in
set_option maxHeartbeats 1000000 in
theorem fh_not (a : Option Addr) (n C : Nat) (f : Nat → Int) (k : Int) (w : World) (hT : Tab w) (hA : Arg w a n f) (hC : n ≤ C) (hc : headC n f ≠ 0) :
    Calls Tryd.prog 40 #[.slice a n C, .int .i64 k] w fun e w' => e = .returned (.agg (fnd 0 0 0 (fun _ => 0)).toArray) ∧ Below w.heap.size w w' := by
  have hT0 := hT.2
  have TT : Hid (Tab w) := hT
  have HA : Hid (Arg w a n f) := hA
  clear hT hA
  obtain ⟨h, hh⟩ : ∃ h, headV n f = h := ⟨_, rfl⟩
  obtain ⟨c, hce⟩ : ∃ c, headC n f = c := ⟨_, rfl⟩
  rw [hce] at hc
  have HV : Hid (headV n f = h) := hh
  have HC : Hid (headC n f = c) := hce
  have c0 : (c != 0) = true := by simpa using hc
  clear hc hh hce
  have T0 : Hid True := trivial
  go_enter Tryd.func40, Tryd.ntmps40
  go_wp2_with (first
    | (have _q := T0; clear _q; refine wpList_alloc_rec rfl 70 rfl (fnd 0 0 0 (fun _ => 0)) w.heap.size rfl zeroFnd ?_; intro W1 hR1 hB1 hz1
       have R1 : Hid (Rec19 W1 w.heap.size 0 (fnd 0 0 0 (fun _ => 0))) := hR1
       have B1 : Hid (Below w.heap.size w W1) := hB1
       clear hR1 hB1 hz1 T0)
    | (have _q := R1; clear _q; go_at_call 27; refine (head_gen a n C f _ (TT.out.below B1.out hT0) (HA.out.below B1.out) hC).mono ?_; rintro e W2 ⟨rfl, hB2⟩; rw [HV.out, HC.out]
       have R2 : Hid (Rec19 W2 w.heap.size 0 (fnd 0 0 0 (fun _ => 0))) := R1.out.below hB2
       have B2 : Hid (Below w.heap.size w W2) := B1.out.trans (hB2.mono B1.out.size)
       clear hB2 R1 B1)
    | (have _q := R2; clear _q; refine wpList_alloc_rec rfl 26 rfl (hcs fun _ => 0) W2.heap.size rfl zeroHdr ?_; intro W3 hR3 hB3 hz3)
    | (have _q := R2; clear _q; refine wpList_store_rec rfl 26 (.tmp 5) (.tmp 10) rfl W2.heap.size 0 _ (hcs h) rfl rfl hR3 rfl (by kernel_rfl) (hcs_one _) ?_; intro W4 hR4 hB4
       have F4 : Below W2.heap.size W2 W4 := hB3.trans (hB4.below (Nat.le_refl _) (by omega))
       have R4 : Hid (Rec19 W4 w.heap.size 0 (fnd 0 0 0 (fun _ => 0))) := R2.out.below F4
       have B4 : Hid (Below w.heap.size w W4) := B2.out.trans (F4.mono B2.out.size)
       have H4 : Hid (Rec19 W4 W2.heap.size 0 (hcs h)) := hR4
       clear F4 hR3 hB3 hz3 hB4 hR4 R2 B2)
    | (have _q := R4; clear _q; refine wpList_build_to rfl 70 _ rfl (fnd 0 0 0 (fun _ => 0)).toArray (by kernel_rfl) ?_)
    | (have _q := R4; clear _q; refine wpList_store_rec rfl 70 (.tmp 4) (.tmp 16) rfl w.heap.size 0 _ (fnd 0 0 0 (fun _ => 0)) rfl rfl R4.out (by simp only [fnd_len]) (fnd_info _ _ _ _) (fnd_one _ _ _ _) ?_; intro W9 hR9 hB9
       have BZ : Hid (Below w.heap.size w W4) := B4.out))
  have hl := hR9.run_load 70 _ Tryd.underlying70 rfl (fnd_info _ _ _ _)
  refine bodyPost_ret (v := .agg (fnd 0 0 0 (fun _ => 0)).toArray) (by simp [results, Tryd.results40, asAddr, Act.put, hl]) rfl ⟨rfl, BZ.out.trans (hB9.below (Nat.le_refl _) BZ.out.size)⟩
set_option maxRecDepth 100000 in
set_option maxHeartbeats 1000000 in
theorem fh_prep (a : Option Addr) (n C : Nat) (f : Nat → Int) (k : Int) (w : World) (hT : Tab w) (hA : Arg w a n f) (hC : n ≤ C) (hc : headC n f = 0) (hp : isPrep (hdrF f) k = true) :
    Calls Tryd.prog 40 #[.slice a n C, .int .i64 k] w fun e w' => e = .returned (.agg (fnd 2 (hdrF f 5) (hdrF f 3) f).toArray) ∧ Below w.heap.size w w' := by
  have hT0 := hT.2
  have TT : Hid (Tab w) := hT
  have HA : Hid (Arg w a n f) := hA
  clear hT hA
  have hv := headV_zero hc
  have HN : Hid (n = 256) := (headC_zero hc).1
  obtain ⟨h, hh⟩ : ∃ h, hdrF f = h := ⟨_, rfl⟩
  rw [hh] at hv hp
  have HV : Hid (headV n f = h) := hv
  have HC : Hid (headC n f = 0) := hc
  have HP : Hid (isPrep h k = true) := hp
  rw [hh]
  clear hc hp hh hv
  have T0 : Hid True := trivial
  go_enter Tryd.func40, Tryd.ntmps40
  go_wp2_with (first
    | (have _q := T0; clear _q; refine wpList_alloc_rec rfl 70 rfl (fnd 0 0 0 (fun _ => 0)) w.heap.size rfl zeroFnd ?_; intro W1 hR1 hB1 hz1
       have R1 : Hid (Rec19 W1 w.heap.size 0 (fnd 0 0 0 (fun _ => 0))) := hR1
       have B1 : Hid (Below w.heap.size w W1) := hB1
       clear hR1 hB1 hz1 T0)
    | (have _q := R1; clear _q; go_at_call 27; refine (head_gen a n C f _ (TT.out.below B1.out hT0) (HA.out.below B1.out) hC).mono ?_; rintro e W2 ⟨rfl, hB2⟩; rw [HV.out, HC.out]
       have R2 : Hid (Rec19 W2 w.heap.size 0 (fnd 0 0 0 (fun _ => 0))) := R1.out.below hB2
       have B2 : Hid (Below w.heap.size w W2) := B1.out.trans (hB2.mono B1.out.size)
       clear hB2 R1 B1)
    | (have _q := R2; clear _q; refine wpList_alloc_rec rfl 26 rfl (hcs fun _ => 0) W2.heap.size rfl zeroHdr ?_; intro W3 hR3 hB3 hz3)
    | (have _q := R2; clear _q; refine wpList_store_rec rfl 26 (.tmp 5) (.tmp 10) rfl W2.heap.size 0 _ (hcs h) rfl rfl hR3 rfl (by kernel_rfl) (hcs_one _) ?_; intro W4 hR4 hB4
       have F4 : Below W2.heap.size W2 W4 := hB3.trans (hB4.below (Nat.le_refl _) (by omega))
       have R4 : Hid (Rec19 W4 w.heap.size 0 (fnd 0 0 0 (fun _ => 0))) := R2.out.below F4
       have B4 : Hid (Below w.heap.size w W4) := B2.out.trans (F4.mono B2.out.size)
       have H4 : Hid (Rec19 W4 W2.heap.size 0 (hcs h)) := hR4
       clear F4 hR3 hB3 hz3 hB4 hR4 R2 B2)
    | (have _q := R4; clear _q; refine wpList_load_rec rfl 26 (.tmp 5) rfl W2.heap.size 0 (hcs h) rfl _ Tryd.underlying26 rfl (by kernel_rfl) H4.out ?_)
    | (have _q := R4; clear _q; go_at_call 32; refine (isPrepare_any h k _).mono ?_; rintro e W5 ⟨rfl, hB5⟩; rw [HP.out]
       have R5 : Hid (Rec19 W5 w.heap.size 0 (fnd 0 0 0 (fun _ => 0))) := R4.out.below hB5
       have B5 : Hid (Below w.heap.size w W5) := B4.out.trans (hB5.mono B4.out.size)
       have H5 : Hid (Rec19 W5 W2.heap.size 0 (hcs h)) := H4.out.below hB5
       clear hB5 R4 B4 H4)
    | (have _q := R5; clear _q; refine wpList_load_rec rfl 26 (.tmp 5) rfl W2.heap.size 0 (hcs h) rfl _ Tryd.underlying26 rfl (by kernel_rfl) H5.out ?_)
    | (have _q := R5; clear _q; go_at_call 61; refine (foundOf_any h a n C f _ (by have := HN.out; omega) (HA.out.below B5.out)).mono ?_; rintro e W6 ⟨rfl, hB6⟩
       have R6 : Hid (Rec19 W6 w.heap.size 0 (fnd 0 0 0 (fun _ => 0))) := R5.out.below hB6
       have B6 : Hid (Below w.heap.size w W6) := B5.out.trans (hB6.mono B5.out.size)
       clear hB6 R5 B5 H5)
    | (have _q := R6; clear _q; refine wpList_store_rec rfl 70 (.tmp 4) (.tmp 23) rfl w.heap.size 0 _ (fnd 2 (h 5) (h 3) f) rfl rfl R6.out (by simp only [fnd_len]) (fnd_info _ _ _ _) (fnd_one _ _ _ _) ?_; intro W9 hR9 hB9
       have BZ : Hid (Below w.heap.size w W6) := B6.out))
  have hl := hR9.run_load 70 _ Tryd.underlying70 rfl (fnd_info _ _ _ _)
  refine bodyPost_ret (v := .agg (fnd 2 (h 5) (h 3) f).toArray) (by simp [results, Tryd.results40, asAddr, Act.put, hl]) rfl ⟨rfl, BZ.out.trans (hB9.below (Nat.le_refl _) BZ.out.size)⟩
set_option maxRecDepth 100000 in
set_option maxHeartbeats 1000000 in
theorem fh_unw (a : Option Addr) (n C : Nat) (f : Nat → Int) (k : Int) (w : World) (hT : Tab w) (hA : Arg w a n f) (hC : n ≤ C) (hc : headC n f = 0) (hp : isPrep (hdrF f) k = false) (hu : isUnw n f k = true) :
    Calls Tryd.prog 40 #[.slice a n C, .int .i64 k] w fun e w' => e = .returned (.agg (fnd 1 0 0 (fun _ => 0)).toArray) ∧ Below w.heap.size w w' := by
  have hT0 := hT.2
  have TT : Hid (Tab w) := hT
  have HA : Hid (Arg w a n f) := hA
  clear hT hA
  have hv := headV_zero hc
  have HN : Hid (n = 256) := (headC_zero hc).1
  obtain ⟨h, hh⟩ : ∃ h, hdrF f = h := ⟨_, rfl⟩
  rw [hh] at hv hp
  have HV : Hid (headV n f = h) := hv
  have HC : Hid (headC n f = 0) := hc
  have HP : Hid (isPrep h k = false) := hp
  have HU : Hid (isUnw n f k = true) := hu
  clear hc hp hh hv hu
  have T0 : Hid True := trivial
  go_enter Tryd.func40, Tryd.ntmps40
  go_wp2_with (first
    | (have _q := T0; clear _q; refine wpList_alloc_rec rfl 70 rfl (fnd 0 0 0 (fun _ => 0)) w.heap.size rfl zeroFnd ?_; intro W1 hR1 hB1 hz1
       have R1 : Hid (Rec19 W1 w.heap.size 0 (fnd 0 0 0 (fun _ => 0))) := hR1
       have B1 : Hid (Below w.heap.size w W1) := hB1
       clear hR1 hB1 hz1 T0)
    | (have _q := R1; clear _q; go_at_call 27; refine (head_gen a n C f _ (TT.out.below B1.out hT0) (HA.out.below B1.out) hC).mono ?_; rintro e W2 ⟨rfl, hB2⟩; rw [HV.out, HC.out]
       have R2 : Hid (Rec19 W2 w.heap.size 0 (fnd 0 0 0 (fun _ => 0))) := R1.out.below hB2
       have B2 : Hid (Below w.heap.size w W2) := B1.out.trans (hB2.mono B1.out.size)
       clear hB2 R1 B1)
    | (have _q := R2; clear _q; refine wpList_alloc_rec rfl 26 rfl (hcs fun _ => 0) W2.heap.size rfl zeroHdr ?_; intro W3 hR3 hB3 hz3)
    | (have _q := R2; clear _q; refine wpList_store_rec rfl 26 (.tmp 5) (.tmp 10) rfl W2.heap.size 0 _ (hcs h) rfl rfl hR3 rfl (by kernel_rfl) (hcs_one _) ?_; intro W4 hR4 hB4
       have F4 : Below W2.heap.size W2 W4 := hB3.trans (hB4.below (Nat.le_refl _) (by omega))
       have R4 : Hid (Rec19 W4 w.heap.size 0 (fnd 0 0 0 (fun _ => 0))) := R2.out.below F4
       have B4 : Hid (Below w.heap.size w W4) := B2.out.trans (F4.mono B2.out.size)
       have H4 : Hid (Rec19 W4 W2.heap.size 0 (hcs h)) := hR4
       clear F4 hR3 hB3 hz3 hB4 hR4 R2 B2)
    | (have _q := R4; clear _q; refine wpList_load_rec rfl 26 (.tmp 5) rfl W2.heap.size 0 (hcs h) rfl _ Tryd.underlying26 rfl (by kernel_rfl) H4.out ?_)
    | (have _q := R4; clear _q; go_at_call 32; refine (isPrepare_any h k _).mono ?_; rintro e W5 ⟨rfl, hB5⟩; rw [HP.out]
       have R5 : Hid (Rec19 W5 w.heap.size 0 (fnd 0 0 0 (fun _ => 0))) := R4.out.below hB5
       have B5 : Hid (Below w.heap.size w W5) := B4.out.trans (hB5.mono B4.out.size)
       have H5 : Hid (Rec19 W5 W2.heap.size 0 (hcs h)) := H4.out.below hB5
       clear hB5 R4 B4 H4)
    | (have _q := R5; clear _q; go_at_call 62; refine (isUnwritten_any a n C f k _ (TT.out.below B5.out hT0) (HA.out.below B5.out)).mono ?_; rintro e W6 ⟨rfl, hB6⟩; rw [HU.out]
       have R6 : Hid (Rec19 W6 w.heap.size 0 (fnd 0 0 0 (fun _ => 0))) := R5.out.below hB6
       have B6 : Hid (Below w.heap.size w W6) := B5.out.trans (hB6.mono B5.out.size)
       clear hB6 R5 B5 H5)
    | (have _q := R6; clear _q; refine wpList_build_to rfl 70 _ rfl (fnd 1 0 0 (fun _ => 0)).toArray (by kernel_rfl) ?_)
    | (have _q := R6; clear _q; refine wpList_store_rec rfl 70 (.tmp 4) (.tmp 28) rfl w.heap.size 0 _ (fnd 1 0 0 (fun _ => 0)) rfl rfl R6.out (by simp only [fnd_len]) (fnd_info _ _ _ _) (fnd_one _ _ _ _) ?_; intro W9 hR9 hB9
       have BZ : Hid (Below w.heap.size w W6) := B6.out))
  have hl := hR9.run_load 70 _ Tryd.underlying70 rfl (fnd_info _ _ _ _)
  refine bodyPost_ret (v := .agg (fnd 1 0 0 (fun _ => 0)).toArray) (by simp [results, Tryd.results40, asAddr, Act.put, hl]) rfl ⟨rfl, BZ.out.trans (hB9.below (Nat.le_refl _) BZ.out.size)⟩
set_option maxRecDepth 100000 in
set_option maxHeartbeats 1000000 in
theorem fh_none (a : Option Addr) (n C : Nat) (f : Nat → Int) (k : Int) (w : World) (hT : Tab w) (hA : Arg w a n f) (hC : n ≤ C) (hc : headC n f = 0) (hp : isPrep (hdrF f) k = false) (hu : isUnw n f k = false) :
    Calls Tryd.prog 40 #[.slice a n C, .int .i64 k] w fun e w' => e = .returned (.agg (fnd 0 0 0 (fun _ => 0)).toArray) ∧ Below w.heap.size w w' := by
  have hT0 := hT.2
  have TT : Hid (Tab w) := hT
  have HA : Hid (Arg w a n f) := hA
  clear hT hA
  have hv := headV_zero hc
  have HN : Hid (n = 256) := (headC_zero hc).1
  obtain ⟨h, hh⟩ : ∃ h, hdrF f = h := ⟨_, rfl⟩
  rw [hh] at hv hp
  have HV : Hid (headV n f = h) := hv
  have HC : Hid (headC n f = 0) := hc
  have HP : Hid (isPrep h k = false) := hp
  have HU : Hid (isUnw n f k = false) := hu
  clear hc hp hh hv hu
  have T0 : Hid True := trivial
  go_enter Tryd.func40, Tryd.ntmps40
  go_wp2_with (first
    | (have _q := T0; clear _q; refine wpList_alloc_rec rfl 70 rfl (fnd 0 0 0 (fun _ => 0)) w.heap.size rfl zeroFnd ?_; intro W1 hR1 hB1 hz1
       have R1 : Hid (Rec19 W1 w.heap.size 0 (fnd 0 0 0 (fun _ => 0))) := hR1
       have B1 : Hid (Below w.heap.size w W1) := hB1
       clear hR1 hB1 hz1 T0)
    | (have _q := R1; clear _q; go_at_call 27; refine (head_gen a n C f _ (TT.out.below B1.out hT0) (HA.out.below B1.out) hC).mono ?_; rintro e W2 ⟨rfl, hB2⟩; rw [HV.out, HC.out]
       have R2 : Hid (Rec19 W2 w.heap.size 0 (fnd 0 0 0 (fun _ => 0))) := R1.out.below hB2
       have B2 : Hid (Below w.heap.size w W2) := B1.out.trans (hB2.mono B1.out.size)
       clear hB2 R1 B1)
    | (have _q := R2; clear _q; refine wpList_alloc_rec rfl 26 rfl (hcs fun _ => 0) W2.heap.size rfl zeroHdr ?_; intro W3 hR3 hB3 hz3)
    | (have _q := R2; clear _q; refine wpList_store_rec rfl 26 (.tmp 5) (.tmp 10) rfl W2.heap.size 0 _ (hcs h) rfl rfl hR3 rfl (by kernel_rfl) (hcs_one _) ?_; intro W4 hR4 hB4
       have F4 : Below W2.heap.size W2 W4 := hB3.trans (hB4.below (Nat.le_refl _) (by omega))
       have R4 : Hid (Rec19 W4 w.heap.size 0 (fnd 0 0 0 (fun _ => 0))) := R2.out.below F4
       have B4 : Hid (Below w.heap.size w W4) := B2.out.trans (F4.mono B2.out.size)
       have H4 : Hid (Rec19 W4 W2.heap.size 0 (hcs h)) := hR4
       clear F4 hR3 hB3 hz3 hB4 hR4 R2 B2)
    | (have _q := R4; clear _q; refine wpList_load_rec rfl 26 (.tmp 5) rfl W2.heap.size 0 (hcs h) rfl _ Tryd.underlying26 rfl (by kernel_rfl) H4.out ?_)
    | (have _q := R4; clear _q; go_at_call 32; refine (isPrepare_any h k _).mono ?_; rintro e W5 ⟨rfl, hB5⟩; rw [HP.out]
       have R5 : Hid (Rec19 W5 w.heap.size 0 (fnd 0 0 0 (fun _ => 0))) := R4.out.below hB5
       have B5 : Hid (Below w.heap.size w W5) := B4.out.trans (hB5.mono B4.out.size)
       have H5 : Hid (Rec19 W5 W2.heap.size 0 (hcs h)) := H4.out.below hB5
       clear hB5 R4 B4 H4)
    | (have _q := R5; clear _q; go_at_call 62; refine (isUnwritten_any a n C f k _ (TT.out.below B5.out hT0) (HA.out.below B5.out)).mono ?_; rintro e W6 ⟨rfl, hB6⟩; rw [HU.out]
       have R6 : Hid (Rec19 W6 w.heap.size 0 (fnd 0 0 0 (fun _ => 0))) := R5.out.below hB6
       have B6 : Hid (Below w.heap.size w W6) := B5.out.trans (hB6.mono B5.out.size)
       clear hB6 R5 B5 H5)
    | (have _q := R6; clear _q; refine wpList_build_to rfl 70 _ rfl (fnd 0 0 0 (fun _ => 0)).toArray (by kernel_rfl) ?_)
    | (have _q := R6; clear _q; refine wpList_store_rec rfl 70 (.tmp 4) (.tmp 12) rfl w.heap.size 0 _ (fnd 0 0 0 (fun _ => 0)) rfl rfl R6.out (by simp only [fnd_len]) (fnd_info _ _ _ _) (fnd_one _ _ _ _) ?_; intro W9 hR9 hB9
       have BZ : Hid (Below w.heap.size w W6) := B6.out))
  have hl := hR9.run_load 70 _ Tryd.underlying70 rfl (fnd_info _ _ _ _)
  refine bodyPost_ret (v := .agg (fnd 0 0 0 (fun _ => 0)).toArray) (by simp [results, Tryd.results40, asAddr, Act.put, hl]) rfl ⟨rfl, BZ.out.trans (hB9.below (Nat.le_refl _) BZ.out.size)⟩
theorem findHead_any (a : Option Addr) (n C : Nat) (f : Nat → Int) (k : Int) (w : World) (hT : Tab w) (hA : Arg w a n f) (hC : n ≤ C) :
    Calls Tryd.prog 40 #[.slice a n C, .int .i64 k] w fun e w' => e = .returned (.agg (fhV n f k).toArray) ∧ Below w.heap.size w w' := by
  unfold fhV fhK
  by_cases h1 : headC n f = 0
  · by_cases h2 : isPrep (hdrF f) k = true
    · rw [if_pos h1, if_pos h2, if_pos rfl]
      exact fh_prep a n C f k w hT hA hC h1 h2
    · by_cases h3 : isUnw n f k = true
      · rw [if_pos h1, if_neg h2, if_pos h3, if_neg (by decide)]
        exact fh_unw a n C f k w hT hA hC h1 (by simpa using h2) h3
      · rw [if_pos h1, if_neg h2, if_neg h3, if_neg (by decide)]
        exact fh_none a n C f k w hT hA hC h1 (by simpa using h2) (by simpa using h3)
  · rw [if_neg h1, if_neg (by decide)]
    exact fh_not a n C f k w hT hA hC h1
set_option maxRecDepth 100000 in
set_option maxHeartbeats 1000000 in
theorem fp_no (a : Option Addr) (n C : Nat) (f : Nat → Int) (k : Int) (w : World) (hT : Tab w) (hA : Arg w a n f) (hC : n ≤ C) (hm : n ≤ 1000000) (hp : prepOK n f k = false) :
    Calls Tryd.prog 41 #[.slice a n C, .int .i64 k] w fun e w' => e = .returned (.agg (fnd 0 0 0 (fun _ => 0)).toArray) ∧ Below w.heap.size w w' := by
  have hT0 := hT.2
  have TT : Hid (Tab w) := hT
  have HA : Hid (Arg w a n f) := hA
  have HP := hp
  have HP' : Hid (prepOK n f k = false) := hp
  clear hT hA hp HP
  have T0 : Hid True := trivial
  go_enter Tryd.func41, Tryd.ntmps41
  go_wp2_with (first
    | (have _q := T0; clear _q; refine wpList_alloc_rec rfl 70 rfl (fnd 0 0 0 (fun _ => 0)) w.heap.size rfl zeroFnd ?_; intro W1 hR1 hB1 hz1
       have R1 : Hid (Rec19 W1 w.heap.size 0 (fnd 0 0 0 (fun _ => 0))) := hR1
       have B1 : Hid (Below w.heap.size w W1) := hB1
       clear hR1 hB1 hz1 T0)
    | (have _q := R1; clear _q; go_at_call 19; refine (prep_no a n C f k _ (TT.out.below B1.out hT0) (HA.out.below B1.out) hC hm HP'.out).mono ?_; rintro e W2 ⟨rfl, hB2⟩
       have R2 : Hid (Rec19 W2 w.heap.size 0 (fnd 0 0 0 (fun _ => 0))) := R1.out.below hB2
       have B2 : Hid (Below w.heap.size w W2) := B1.out.trans (hB2.mono B1.out.size)
       clear hB2 R1 B1)
    | (have _q := R2; clear _q; refine wpList_alloc_rec rfl 29 rfl (msg (fun _ => 0) none 0 0) W2.heap.size rfl zeroMsg ?_; intro W3 hR3 hB3 hz3)
    | (have _q := R2; clear _q; refine wpList_store_rec rfl 29 (.tmp 5) (.tmp 11) rfl W2.heap.size 0 _ (msg (fun _ => 0) none 0 0) rfl rfl hR3 rfl (by kernel_rfl) (msg_one _ _ _ _) ?_; intro W4 hR4 hB4
       have F4 : Below W2.heap.size W2 W4 := hB3.trans (hB4.below (Nat.le_refl _) (by omega))
       have R4 : Hid (Rec19 W4 w.heap.size 0 (fnd 0 0 0 (fun _ => 0))) := R2.out.below F4
       have B4 : Hid (Below w.heap.size w W4) := B2.out.trans (F4.mono B2.out.size)
       have H4 : Hid (Rec19 W4 W2.heap.size 0 (msg (fun _ => 0) none 0 0)) := hR4
       clear F4 hR3 hB3 hz3 hB4 hR4 R2 B2)
    | (have _q := R4; clear _q; refine wpList_build_to rfl 70 _ rfl (fnd 0 0 0 (fun _ => 0)).toArray (by kernel_rfl) ?_)
    | (have _q := R4; clear _q; refine wpList_store_rec rfl 70 (.tmp 4) (.tmp 15) rfl w.heap.size 0 _ (fnd 0 0 0 (fun _ => 0)) rfl rfl R4.out (by simp only [fnd_len]) (fnd_info _ _ _ _) (fnd_one _ _ _ _) ?_; intro W9 hR9 hB9
       have BZ : Hid (Below w.heap.size w W4) := B4.out))
  have hl := hR9.run_load 70 _ Tryd.underlying70 rfl (fnd_info _ _ _ _)
  refine bodyPost_ret (v := .agg (fnd 0 0 0 (fun _ => 0)).toArray) (by simp [results, Tryd.results41, asAddr, Act.put, hl]) rfl ⟨rfl, BZ.out.trans (hB9.below (Nat.le_refl _) BZ.out.size)⟩
set_option maxRecDepth 100000 in
set_option maxHeartbeats 1000000 in
theorem fp_ok (a : Option Addr) (n C : Nat) (f : Nat → Int) (k : Int) (w : World) (hT : Tab w) (hA : Arg w a n f) (hC : n ≤ C) (hm : n ≤ 1000000) (hp : prepOK n f k = true) :
    Calls Tryd.prog 41 #[.slice a n C, .int .i64 k] w fun e w' => e = .returned (.agg (fnd 2 (hdrF f 5) (hdrF f 3) f).toArray) ∧ Below w.heap.size w w' := by
  have hT0 := hT.2
  have TT : Hid (Tab w) := hT
  have HA : Hid (Arg w a n f) := hA
  have HP := hp
  have HP' : Hid (prepOK n f k = true) := hp
  clear hT hA hp HP
  have HN : Hid (256 ≤ n) := (prepOK_iff.1 HP'.out).1
  obtain ⟨h, hh⟩ : ∃ h, hdrF f = h := ⟨_, rfl⟩
  have HH : Hid (hdrF f = h) := hh
  rw [hh]
  clear hh
  obtain ⟨s, hs⟩ : ∃ s, (h 2).toNat = s := ⟨_, rfl⟩
  have HS : Hid ((h 2).toNat = s) := hs
  clear hs
  have T0 : Hid True := trivial
  go_enter Tryd.func41, Tryd.ntmps41
  go_wp2_with (first
    | (have _q := T0; clear _q; refine wpList_alloc_rec rfl 70 rfl (fnd 0 0 0 (fun _ => 0)) w.heap.size rfl zeroFnd ?_; intro W1 hR1 hB1 hz1
       have R1 : Hid (Rec19 W1 w.heap.size 0 (fnd 0 0 0 (fun _ => 0))) := hR1
       have B1 : Hid (Below w.heap.size w W1) := hB1
       clear hR1 hB1 hz1 T0)
    | (have _q := R1; clear _q; go_at_call 19; refine (prep_ok a n C f k _ (TT.out.below B1.out hT0) (HA.out.below B1.out) hC hm HP'.out).mono ?_; rintro e W2 ⟨g, rfl, hg, hG, hB2⟩; rw [HH.out, HS.out]; clear hg hG
       have R2 : Hid (Rec19 W2 w.heap.size 0 (fnd 0 0 0 (fun _ => 0))) := R1.out.below hB2
       have B2 : Hid (Below w.heap.size w W2) := B1.out.trans (hB2.mono B1.out.size)
       clear hB2 R1 B1)
    | (have _q := R2; clear _q; refine wpList_alloc_rec rfl 29 rfl (msg (fun _ => 0) none 0 0) W2.heap.size rfl zeroMsg ?_; intro W3 hR3 hB3 hz3)
    | (have _q := R2; clear _q; refine wpList_store_rec rfl 29 (.tmp 5) (.tmp 11) rfl W2.heap.size 0 _ (msg h (some ⟨g, 0, none⟩) s s) rfl rfl hR3 rfl (by kernel_rfl) (msg_one _ _ _ _) ?_; intro W4 hR4 hB4
       have F4 : Below W2.heap.size W2 W4 := hB3.trans (hB4.below (Nat.le_refl _) (by omega))
       have R4 : Hid (Rec19 W4 w.heap.size 0 (fnd 0 0 0 (fun _ => 0))) := R2.out.below F4
       have B4 : Hid (Below w.heap.size w W4) := B2.out.trans (F4.mono B2.out.size)
       have H4 : Hid (Rec19 W4 W2.heap.size 0 (msg h (some ⟨g, 0, none⟩) s s)) := hR4
       clear F4 hR3 hB3 hz3 hB4 hR4 R2 B2)
    | (have _q := R4; clear _q; refine wpList_load_rec rfl 26 (.tmp 16) rfl W2.heap.size 0 (hcs h) rfl _ Tryd.underlying26 rfl (by kernel_rfl) H4.out.head ?_)
    | (have _q := R4; clear _q; go_at_call 61; refine (foundOf_any h a n C f _ HN.out (HA.out.below B4.out)).mono ?_; rintro e W6 ⟨rfl, hB6⟩
       have R6 : Hid (Rec19 W6 w.heap.size 0 (fnd 0 0 0 (fun _ => 0))) := R4.out.below hB6
       have B6 : Hid (Below w.heap.size w W6) := B4.out.trans (hB6.mono B4.out.size)
       clear hB6 R4 B4 H4)
    | (have _q := R6; clear _q; refine wpList_store_rec rfl 70 (.tmp 4) (.tmp 19) rfl w.heap.size 0 _ (fnd 2 (h 5) (h 3) f) rfl rfl R6.out (by simp only [fnd_len]) (fnd_info _ _ _ _) (fnd_one _ _ _ _) ?_; intro W9 hR9 hB9
       have BZ : Hid (Below w.heap.size w W6) := B6.out))
  have hl := hR9.run_load 70 _ Tryd.underlying70 rfl (fnd_info _ _ _ _)
  refine bodyPost_ret (v := .agg (fnd 2 (h 5) (h 3) f).toArray) (by simp [results, Tryd.results41, asAddr, Act.put, hl]) rfl ⟨rfl, BZ.out.trans (hB9.below (Nat.le_refl _) BZ.out.size)⟩
theorem findPrepare_any (a : Option Addr) (n C : Nat) (f : Nat → Int) (k : Int) (w : World) (hT : Tab w) (hA : Arg w a n f) (hC : n ≤ C) (hm : n ≤ 1000000) :
    Calls Tryd.prog 41 #[.slice a n C, .int .i64 k] w fun e w' => e = .returned (.agg (fpV n f k).toArray) ∧ Below w.heap.size w w' := by
  unfold fpV
  by_cases h : prepOK n f k = true
  · rw [if_pos h]; exact fp_ok a n C f k w hT hA hC hm h
  · rw [if_neg h]; exact fp_no a n C f k w hT hA hC hm (by simpa using h)
end Go.Proofs.YtfpgkckcifjkcaaDoor
namespace Go.Proofs.YtfpgkckcifjkcaaDoor
open Go.RowKit
/-- What stays while a slot is judged. -/
def jS (w : World) (p : Nat) (H P : List Value) (W : World) : Prop := Rec19 W w.heap.size 0 (ss 0 0 0 false) ∧ Rec19 W p 0 H ∧ Rec19 W (p + 1) 0 P ∧ Below w.heap.size w W
theorem jS.below {w : World} {p : Nat} {H P : List Value} {W W' : World} (s : jS w p H P W) (hB : Below W.heap.size W W') : jS w p H P W' :=
  ⟨s.1.below hB, s.2.1.below hB, s.2.2.1.below hB, s.2.2.2.trans (hB.mono s.2.2.2.size)⟩
/-- noughts answers as it should. -/
def NgOk (a : Option Addr) (n C : Nat) (f : Nat → Int) : Prop := ∀ W, Arg W a n f → Calls Tryd.prog 45 #[.slice a n C] W fun e w' => e = .returned (.bool (zeroN n f)) ∧ Below W.heap.size W w'
/-- findHead and findPrepare answer so. -/
def FhIs (a : Option Addr) (n C : Nat) (f : Nat → Int) (k : Int) (H : List Value) : Prop := ∀ W, Tab W → Arg W a n f → Calls Tryd.prog 40 #[.slice a n C, .int .i64 k] W fun e w' => e = .returned (.agg H.toArray) ∧ Below W.heap.size W w'
def FpIs (a : Option Addr) (n C : Nat) (f : Nat → Int) (k : Int) (H : List Value) : Prop := ∀ W, Tab W → Arg W a n f → Calls Tryd.prog 41 #[.slice a n C, .int .i64 k] W fun e w' => e = .returned (.agg H.toArray) ∧ Below W.heap.size W w'
/-- The parameters of Judge. -/
structure JArg (a : Option Addr) (n C : Nat) (f : Nat → Int) (a' : Option Addr) (n' C' : Nat) (f' : Nat → Int) (w : World) : Prop where
  tab : Tab w
  arg : Arg w a n f
  arg' : Arg w a' n' f'
theorem JArg.below {a : Option Addr} {n C : Nat} {f : Nat → Int} {a' : Option Addr} {n' C' : Nat} {f' : Nat → Int} {w W : World} (h : JArg a n C f a' n' C' f' w) (hB : Below w.heap.size w W) : JArg a n C f a' n' C' f' W := ⟨h.tab.below hB h.tab.2, h.arg.below hB, h.arg'.below hB⟩
set_option maxRecDepth 100000 in
set_option maxHeartbeats 400000 in
theorem judge_no (a a' : Option Addr) (n C n' C' : Nat) (k : Int) (w : World) (hk : isSl k = false) :
    Calls Tryd.prog 22 #[.slice a n C, .slice a' n' C', .int .i64 k] w fun e w' => e = .returned (.agg (ss 0 0 0 false).toArray) ∧ Below w.heap.size w w' := by
  have HK : Hid (isSl k = false) := hk
  clear hk
  go_enter Tryd.func22, Tryd.ntmps22
  go_wp2_with (first
    | (refine wpList_alloc_rec rfl 45 rfl (ss 0 0 0 false) w.heap.size rfl zeroSs ?_; intro W1 hR1 hB1 hz1)
    | (go_at_call 35; refine (isSlot_any k _).mono ?_; rintro e w3 ⟨rfl, rfl⟩; rw [HK.out])
    | (refine wpList_build_to rfl 45 _ rfl (ss 0 0 0 false).toArray (by kernel_rfl) ?_)
    | (refine wpList_store_rec rfl 45 (.tmp 6) (.tmp 12) rfl w.heap.size 0 _ (ss 0 0 0 false) rfl rfl hR1 rfl (by kernel_rfl) (ss_one _ _ _ _) ?_; intro W9 hR9 hB9))
  have hl := hR9.run_load 45 _ Tryd.underlying45 rfl (by kernel_rfl)
  refine bodyPost_ret (v := .agg (ss 0 0 0 false).toArray) (by simp [results, Tryd.results22, asAddr, Act.put, hl]) rfl ⟨rfl, ?_⟩
  exact hB1.trans (hB9.below (Nat.le_refl _) (by omega))
set_option maxRecDepth 100000 in
set_option maxHeartbeats 1000000 in
theorem judge_same (a a' : Option Addr) (n C n' C' : Nat) (f f' : Nat → Int) (k : Int) (w : World) (y z y' z' : Int) (F G : Nat → Int) (hj : JArg a n C f a' n' C' f' w) (hk : isSl k = true) (hh : FhIs a n C f k (fnd 2 y z F)) (hp : FpIs a' n' C' f' k (fnd 2 y' z' G)) (hF : ∀ j, j < 256 → 0 ≤ F j ∧ F j < 256) (hG : ∀ j, j < 256 → 0 ≤ G j ∧ G j < 256) (he : txtN 256 F = txtN 256 G) :
    Calls Tryd.prog 22 #[.slice a n C, .slice a' n' C', .int .i64 k] w fun e w' => e = .returned (.agg (ss 1 y' z' false).toArray) ∧ Below w.heap.size w w' := by
  have HK : Hid (isSl k = true) := hk
  have HJ : Hid (JArg a n C f a' n' C' f' w) := hj
  have HH : Hid (FhIs a n C f k (fnd 2 y z F)) := hh
  have HP : Hid (FpIs a' n' C' f' k (fnd 2 y' z' G)) := hp
  clear hk hj hh hp
  have HF : Hid (∀ j, j < 256 → 0 ≤ F j ∧ F j < 256) := hF
  have HG : Hid (∀ j, j < 256 → 0 ≤ G j ∧ G j < 256) := hG
  clear hF hG
  have HE : Hid (decide (txtN 256 F = txtN 256 G) = true) := (decide_eq_true he : _)
  clear he
  have T0 : Hid True := trivial
  go_enter Tryd.func22, Tryd.ntmps22
  go_wp2_with (first
    | (have _q := T0; clear _q; refine wpList_alloc_rec rfl 45 rfl (ss 0 0 0 false) w.heap.size rfl zeroSs ?_; intro W1 hR1 hB1 hz1
       have R1 : Hid (Rec19 W1 w.heap.size 0 (ss 0 0 0 false)) := hR1
       have B1 : Hid (Below w.heap.size w W1) := hB1
       clear hR1 hB1 hz1 T0)
    | (have _q := B1; clear _q; go_at_call 35; refine (isSlot_any k _).mono ?_; rintro e w3 ⟨rfl, rfl⟩; rw [HK.out])
    | (have _q := B1; clear _q; go_at_call 40; refine (HH.out _ (HJ.out.below B1.out).tab (HJ.out.below B1.out).arg).mono ?_; rintro e W2 ⟨rfl, hB2⟩
       have R2 : Hid (Rec19 W2 w.heap.size 0 (ss 0 0 0 false)) := R1.out.below hB2
       have B2 : Hid (Below w.heap.size w W2) := B1.out.trans (hB2.mono B1.out.size)
       clear hB2 R1 B1)
    | (have _q := B2; clear _q; go_at_call 41; refine (HP.out _ (HJ.out.below B2.out).tab (HJ.out.below B2.out).arg').mono ?_; rintro e W3 ⟨rfl, hB3⟩
       have R3 : Hid (Rec19 W3 w.heap.size 0 (ss 0 0 0 false)) := R2.out.below hB3
       have B3 : Hid (Below w.heap.size w W3) := B2.out.trans (hB3.mono B2.out.size)
       have T3 : Hid True := trivial
       clear hB3 R2 B2)
    | (have _q := T3; clear _q; refine wpList_alloc_rec rfl 70 rfl (fnd 0 0 0 (fun _ => 0)) W3.heap.size rfl zeroFnd ?_; intro V1 r1 b1 z1
       clear T3)
    | (have _q := z1; clear _q; refine wpList_alloc_rec rfl 70 rfl (fnd 0 0 0 (fun _ => 0)) (W3.heap.size + 1) z1 zeroFnd ?_; intro V2 r2 b2 z2
       have q1 := r1.below (by rw [z1]; exact b2)
       have T4 : Hid (W3.heap.size + 2 = V2.heap.size) := z2.symm
       have B4 : Hid (Below W3.heap.size W3 V2) := b1.trans (b2.mono (by omega))
       clear z1 r1 b1 b2 z2)
    | (have _q := T4; clear _q; refine wpList_store_rec rfl 70 (.tmp 7) (.tmp 15) rfl W3.heap.size 0 _ (fnd 2 y z F) rfl rfl q1 (by simp only [fnd_len]) (fnd_info _ _ _ _) (fnd_one _ _ _ _) ?_; intro V3 r3 b3
       have q2 := r2.but b3 (by omega)
       have B5 : Hid (Below W3.heap.size W3 V3) := B4.out.trans (b3.below (Nat.le_refl _) B4.out.size)
       clear B4 T4 b3 r2 q1)
    | (have _q := B5; clear _q; refine wpList_store_rec rfl 70 (.tmp 8) (.tmp 18) rfl (W3.heap.size + 1) 0 _ (fnd 2 y' z' G) rfl rfl q2 (by simp only [fnd_len]) (fnd_info _ _ _ _) (fnd_one _ _ _ _) ?_; intro W4 r4 b4
       have F4 : Below W3.heap.size W3 W4 := B5.out.trans (b4.below (by omega) B5.out.size)
       have N4 : Hid (w.heap.size < W3.heap.size) := R3.out.2.2
       have S4 : Hid (jS w W3.heap.size (fnd 2 y z F) (fnd 2 y' z' G) W4) := ⟨R3.out.below F4, r3.but b4 (by omega), r4, B3.out.trans (F4.mono B3.out.size)⟩
       have c7 : W4.cell? ⟨W3.heap.size, 0, none⟩ = some (.int .i64 2) := (S4.out.2.1.at 0 _ rfl).1
       have c8 : W4.cell? ⟨W3.heap.size + 1, 0, none⟩ = some (.int .i64 2) := (S4.out.2.2.1.at 0 _ rfl).1
       clear F4 B5 r3 r4 b4 q2 R3 B3)
    | (have _q := S4; clear _q; refine wpList_load_w (by rfl) 70 (.tmp 7) rfl W3.heap.size 0 (fnd 2 y z F) rfl _ Tryd.underlying70 rfl (fnd_info _ _ _ _) S4.out.2.1 ?_)
    | (have _q := S4; clear _q; refine wpList_load_w (by rfl) 70 (.tmp 8) rfl (W3.heap.size + 1) 0 (fnd 2 y' z' G) rfl _ Tryd.underlying70 rfl (fnd_info _ _ _ _) S4.out.2.2.1 ?_)
    | (have _q := S4; clear _q; go_at_call 42; refine (same_found 2 y z 2 y' z' F G _ HF.out HG.out).mono ?_; rintro e W5 ⟨rfl, hB⟩; rw [HE.out]
       have S5 : Hid (jS w W3.heap.size (fnd 2 y z F) (fnd 2 y' z' G) W5) := S4.out.below hB
       clear hB S4 c7 c8
       have c7 : W5.cell? ⟨W3.heap.size, 0, none⟩ = some (.int .i64 2) := (S5.out.2.1.at 0 _ rfl).1
       have c8 : W5.cell? ⟨W3.heap.size + 1, 0, none⟩ = some (.int .i64 2) := (S5.out.2.2.1.at 0 _ rfl).1)
    | (have _q := S5; clear _q; refine wpList_load_w (by rfl) 70 (.tmp 7) rfl W3.heap.size 0 (fnd 2 y z F) rfl _ Tryd.underlying70 rfl (fnd_info _ _ _ _) S5.out.2.1 ?_)
    | (have _q := S5; clear _q; refine wpList_load_w (by rfl) 70 (.tmp 8) rfl (W3.heap.size + 1) 0 (fnd 2 y' z' G) rfl _ Tryd.underlying70 rfl (fnd_info _ _ _ _) S5.out.2.2.1 ?_)
    | (have _q := S5; clear _q; go_at_call 43; refine (state_found 2 y' z' 1 false G _).mono ?_; rintro e W6 ⟨rfl, hB⟩
       have S6 : Hid (jS w W3.heap.size (fnd 2 y z F) (fnd 2 y' z' G) W6) := S5.out.below hB
       clear hB S5 c7 c8
       have c7 : W6.cell? ⟨W3.heap.size, 0, none⟩ = some (.int .i64 2) := (S6.out.2.1.at 0 _ rfl).1
       have c8 : W6.cell? ⟨W3.heap.size + 1, 0, none⟩ = some (.int .i64 2) := (S6.out.2.2.1.at 0 _ rfl).1)
    | (have _q := S6; clear _q; refine wpList_store_rec rfl 45 (.tmp 6) (.tmp 35) rfl w.heap.size 0 _ (ss 1 y' z' false) rfl rfl S6.out.1 rfl (by kernel_rfl) (ss_one _ _ _ _) ?_; intro W9 hR9 hB9))
  have hl := hR9.run_load 45 _ Tryd.underlying45 rfl (by kernel_rfl)
  refine bodyPost_ret (v := .agg (ss 1 y' z' false).toArray) (by simp [results, Tryd.results22, asAddr, Act.put, hl]) rfl ⟨rfl, S6.out.2.2.2.trans (hB9.below (Nat.le_refl _) S6.out.2.2.2.size)⟩
set_option maxRecDepth 100000 in
set_option maxHeartbeats 1000000 in
theorem judge_older (a a' : Option Addr) (n C n' C' : Nat) (f f' : Nat → Int) (k : Int) (w : World) (y z y' z' : Int) (F G : Nat → Int) (hj : JArg a n C f a' n' C' f' w) (hk : isSl k = true) (hh : FhIs a n C f k (fnd 2 y z F)) (hp : FpIs a' n' C' f' k (fnd 2 y' z' G)) (hF : ∀ j, j < 256 → 0 ≤ F j ∧ F j < 256) (hG : ∀ j, j < 256 → 0 ≤ G j ∧ G j < 256) (he : ¬ txtN 256 F = txtN 256 G) (ho : olderB y z y' z' = true) :
    Calls Tryd.prog 22 #[.slice a n C, .slice a' n' C', .int .i64 k] w fun e w' => e = .returned (.agg (ss 1 y' z' true).toArray) ∧ Below w.heap.size w w' := by
  have HK : Hid (isSl k = true) := hk
  have HJ : Hid (JArg a n C f a' n' C' f' w) := hj
  have HH : Hid (FhIs a n C f k (fnd 2 y z F)) := hh
  have HP : Hid (FpIs a' n' C' f' k (fnd 2 y' z' G)) := hp
  clear hk hj hh hp
  have HF : Hid (∀ j, j < 256 → 0 ≤ F j ∧ F j < 256) := hF
  have HG : Hid (∀ j, j < 256 → 0 ≤ G j ∧ G j < 256) := hG
  clear hF hG
  have HE : Hid (decide (txtN 256 F = txtN 256 G) = false) := (decide_eq_false he : _)
  clear he
  have HO : Hid (olderB y z y' z' = true) := ho
  clear ho
  have T0 : Hid True := trivial
  go_enter Tryd.func22, Tryd.ntmps22
  go_wp2_with (first
    | (have _q := T0; clear _q; refine wpList_alloc_rec rfl 45 rfl (ss 0 0 0 false) w.heap.size rfl zeroSs ?_; intro W1 hR1 hB1 hz1
       have R1 : Hid (Rec19 W1 w.heap.size 0 (ss 0 0 0 false)) := hR1
       have B1 : Hid (Below w.heap.size w W1) := hB1
       clear hR1 hB1 hz1 T0)
    | (have _q := B1; clear _q; go_at_call 35; refine (isSlot_any k _).mono ?_; rintro e w3 ⟨rfl, rfl⟩; rw [HK.out])
    | (have _q := B1; clear _q; go_at_call 40; refine (HH.out _ (HJ.out.below B1.out).tab (HJ.out.below B1.out).arg).mono ?_; rintro e W2 ⟨rfl, hB2⟩
       have R2 : Hid (Rec19 W2 w.heap.size 0 (ss 0 0 0 false)) := R1.out.below hB2
       have B2 : Hid (Below w.heap.size w W2) := B1.out.trans (hB2.mono B1.out.size)
       clear hB2 R1 B1)
    | (have _q := B2; clear _q; go_at_call 41; refine (HP.out _ (HJ.out.below B2.out).tab (HJ.out.below B2.out).arg').mono ?_; rintro e W3 ⟨rfl, hB3⟩
       have R3 : Hid (Rec19 W3 w.heap.size 0 (ss 0 0 0 false)) := R2.out.below hB3
       have B3 : Hid (Below w.heap.size w W3) := B2.out.trans (hB3.mono B2.out.size)
       have T3 : Hid True := trivial
       clear hB3 R2 B2)
    | (have _q := T3; clear _q; refine wpList_alloc_rec rfl 70 rfl (fnd 0 0 0 (fun _ => 0)) W3.heap.size rfl zeroFnd ?_; intro V1 r1 b1 z1
       clear T3)
    | (have _q := z1; clear _q; refine wpList_alloc_rec rfl 70 rfl (fnd 0 0 0 (fun _ => 0)) (W3.heap.size + 1) z1 zeroFnd ?_; intro V2 r2 b2 z2
       have q1 := r1.below (by rw [z1]; exact b2)
       have T4 : Hid (W3.heap.size + 2 = V2.heap.size) := z2.symm
       have B4 : Hid (Below W3.heap.size W3 V2) := b1.trans (b2.mono (by omega))
       clear z1 r1 b1 b2 z2)
    | (have _q := T4; clear _q; refine wpList_store_rec rfl 70 (.tmp 7) (.tmp 15) rfl W3.heap.size 0 _ (fnd 2 y z F) rfl rfl q1 (by simp only [fnd_len]) (fnd_info _ _ _ _) (fnd_one _ _ _ _) ?_; intro V3 r3 b3
       have q2 := r2.but b3 (by omega)
       have B5 : Hid (Below W3.heap.size W3 V3) := B4.out.trans (b3.below (Nat.le_refl _) B4.out.size)
       clear B4 T4 b3 r2 q1)
    | (have _q := B5; clear _q; refine wpList_store_rec rfl 70 (.tmp 8) (.tmp 18) rfl (W3.heap.size + 1) 0 _ (fnd 2 y' z' G) rfl rfl q2 (by simp only [fnd_len]) (fnd_info _ _ _ _) (fnd_one _ _ _ _) ?_; intro W4 r4 b4
       have F4 : Below W3.heap.size W3 W4 := B5.out.trans (b4.below (by omega) B5.out.size)
       have N4 : Hid (w.heap.size < W3.heap.size) := R3.out.2.2
       have S4 : Hid (jS w W3.heap.size (fnd 2 y z F) (fnd 2 y' z' G) W4) := ⟨R3.out.below F4, r3.but b4 (by omega), r4, B3.out.trans (F4.mono B3.out.size)⟩
       have c7 : W4.cell? ⟨W3.heap.size, 0, none⟩ = some (.int .i64 2) := (S4.out.2.1.at 0 _ rfl).1
       have c8 : W4.cell? ⟨W3.heap.size + 1, 0, none⟩ = some (.int .i64 2) := (S4.out.2.2.1.at 0 _ rfl).1
       clear F4 B5 r3 r4 b4 q2 R3 B3)
    | (have _q := S4; clear _q; refine wpList_load_w (by rfl) 70 (.tmp 7) rfl W3.heap.size 0 (fnd 2 y z F) rfl _ Tryd.underlying70 rfl (fnd_info _ _ _ _) S4.out.2.1 ?_)
    | (have _q := S4; clear _q; refine wpList_load_w (by rfl) 70 (.tmp 8) rfl (W3.heap.size + 1) 0 (fnd 2 y' z' G) rfl _ Tryd.underlying70 rfl (fnd_info _ _ _ _) S4.out.2.2.1 ?_)
    | (have _q := S4; clear _q; go_at_call 42; refine (same_found 2 y z 2 y' z' F G _ HF.out HG.out).mono ?_; rintro e W5 ⟨rfl, hB⟩; rw [HE.out]
       have S5 : Hid (jS w W3.heap.size (fnd 2 y z F) (fnd 2 y' z' G) W5) := S4.out.below hB
       clear hB S4 c7 c8
       have c7 : W5.cell? ⟨W3.heap.size, 0, none⟩ = some (.int .i64 2) := (S5.out.2.1.at 0 _ rfl).1
       have c8 : W5.cell? ⟨W3.heap.size + 1, 0, none⟩ = some (.int .i64 2) := (S5.out.2.2.1.at 0 _ rfl).1)
    | (have _q := S5; clear _q; refine wpList_load_w (by rfl) 70 (.tmp 7) rfl W3.heap.size 0 (fnd 2 y z F) rfl _ Tryd.underlying70 rfl (fnd_info _ _ _ _) S5.out.2.1 ?_)
    | (have _q := S5; clear _q; refine wpList_load_w (by rfl) 70 (.tmp 8) rfl (W3.heap.size + 1) 0 (fnd 2 y' z' G) rfl _ Tryd.underlying70 rfl (fnd_info _ _ _ _) S5.out.2.2.1 ?_)
    | (have _q := S5; clear _q; go_at_call 44; refine (older_found 2 y z 2 y' z' F G _).mono ?_; rintro e W6 ⟨rfl, hB⟩; rw [HO.out]
       have S6 : Hid (jS w W3.heap.size (fnd 2 y z F) (fnd 2 y' z' G) W6) := S5.out.below hB
       clear hB S5 c7 c8
       have c7 : W6.cell? ⟨W3.heap.size, 0, none⟩ = some (.int .i64 2) := (S6.out.2.1.at 0 _ rfl).1
       have c8 : W6.cell? ⟨W3.heap.size + 1, 0, none⟩ = some (.int .i64 2) := (S6.out.2.2.1.at 0 _ rfl).1)
    | (have _q := S6; clear _q; refine wpList_load_w (by rfl) 70 (.tmp 7) rfl W3.heap.size 0 (fnd 2 y z F) rfl _ Tryd.underlying70 rfl (fnd_info _ _ _ _) S6.out.2.1 ?_)
    | (have _q := S6; clear _q; refine wpList_load_w (by rfl) 70 (.tmp 8) rfl (W3.heap.size + 1) 0 (fnd 2 y' z' G) rfl _ Tryd.underlying70 rfl (fnd_info _ _ _ _) S6.out.2.2.1 ?_)
    | (have _q := S6; clear _q; go_at_call 43; refine (state_found 2 y' z' 1 true G _).mono ?_; rintro e W7 ⟨rfl, hB⟩
       have S7 : Hid (jS w W3.heap.size (fnd 2 y z F) (fnd 2 y' z' G) W7) := S6.out.below hB
       clear hB S6 c7 c8
       have c7 : W7.cell? ⟨W3.heap.size, 0, none⟩ = some (.int .i64 2) := (S7.out.2.1.at 0 _ rfl).1
       have c8 : W7.cell? ⟨W3.heap.size + 1, 0, none⟩ = some (.int .i64 2) := (S7.out.2.2.1.at 0 _ rfl).1)
    | (have _q := S7; clear _q; refine wpList_store_rec rfl 45 (.tmp 6) (.tmp 51) rfl w.heap.size 0 _ (ss 1 y' z' true) rfl rfl S7.out.1 rfl (by kernel_rfl) (ss_one _ _ _ _) ?_; intro W9 hR9 hB9))
  have hl := hR9.run_load 45 _ Tryd.underlying45 rfl (by kernel_rfl)
  refine bodyPost_ret (v := .agg (ss 1 y' z' true).toArray) (by simp [results, Tryd.results22, asAddr, Act.put, hl]) rfl ⟨rfl, S7.out.2.2.2.trans (hB9.below (Nat.le_refl _) S7.out.2.2.2.size)⟩
set_option maxRecDepth 100000 in
set_option maxHeartbeats 1000000 in
theorem judge_other (a a' : Option Addr) (n C n' C' : Nat) (f f' : Nat → Int) (k : Int) (w : World) (y z y' z' : Int) (F G : Nat → Int) (hj : JArg a n C f a' n' C' f' w) (hk : isSl k = true) (hh : FhIs a n C f k (fnd 2 y z F)) (hp : FpIs a' n' C' f' k (fnd 2 y' z' G)) (hF : ∀ j, j < 256 → 0 ≤ F j ∧ F j < 256) (hG : ∀ j, j < 256 → 0 ≤ G j ∧ G j < 256) (he : ¬ txtN 256 F = txtN 256 G) (ho : olderB y z y' z' = false) :
    Calls Tryd.prog 22 #[.slice a n C, .slice a' n' C', .int .i64 k] w fun e w' => e = .returned (.agg (ss 3 y z false).toArray) ∧ Below w.heap.size w w' := by
  have HK : Hid (isSl k = true) := hk
  have HJ : Hid (JArg a n C f a' n' C' f' w) := hj
  have HH : Hid (FhIs a n C f k (fnd 2 y z F)) := hh
  have HP : Hid (FpIs a' n' C' f' k (fnd 2 y' z' G)) := hp
  clear hk hj hh hp
  have HF : Hid (∀ j, j < 256 → 0 ≤ F j ∧ F j < 256) := hF
  have HG : Hid (∀ j, j < 256 → 0 ≤ G j ∧ G j < 256) := hG
  clear hF hG
  have HE : Hid (decide (txtN 256 F = txtN 256 G) = false) := (decide_eq_false he : _)
  clear he
  have HO : Hid (olderB y z y' z' = false) := ho
  clear ho
  have T0 : Hid True := trivial
  go_enter Tryd.func22, Tryd.ntmps22
  go_wp2_with (first
    | (have _q := T0; clear _q; refine wpList_alloc_rec rfl 45 rfl (ss 0 0 0 false) w.heap.size rfl zeroSs ?_; intro W1 hR1 hB1 hz1
       have R1 : Hid (Rec19 W1 w.heap.size 0 (ss 0 0 0 false)) := hR1
       have B1 : Hid (Below w.heap.size w W1) := hB1
       clear hR1 hB1 hz1 T0)
    | (have _q := B1; clear _q; go_at_call 35; refine (isSlot_any k _).mono ?_; rintro e w3 ⟨rfl, rfl⟩; rw [HK.out])
    | (have _q := B1; clear _q; go_at_call 40; refine (HH.out _ (HJ.out.below B1.out).tab (HJ.out.below B1.out).arg).mono ?_; rintro e W2 ⟨rfl, hB2⟩
       have R2 : Hid (Rec19 W2 w.heap.size 0 (ss 0 0 0 false)) := R1.out.below hB2
       have B2 : Hid (Below w.heap.size w W2) := B1.out.trans (hB2.mono B1.out.size)
       clear hB2 R1 B1)
    | (have _q := B2; clear _q; go_at_call 41; refine (HP.out _ (HJ.out.below B2.out).tab (HJ.out.below B2.out).arg').mono ?_; rintro e W3 ⟨rfl, hB3⟩
       have R3 : Hid (Rec19 W3 w.heap.size 0 (ss 0 0 0 false)) := R2.out.below hB3
       have B3 : Hid (Below w.heap.size w W3) := B2.out.trans (hB3.mono B2.out.size)
       have T3 : Hid True := trivial
       clear hB3 R2 B2)
    | (have _q := T3; clear _q; refine wpList_alloc_rec rfl 70 rfl (fnd 0 0 0 (fun _ => 0)) W3.heap.size rfl zeroFnd ?_; intro V1 r1 b1 z1
       clear T3)
    | (have _q := z1; clear _q; refine wpList_alloc_rec rfl 70 rfl (fnd 0 0 0 (fun _ => 0)) (W3.heap.size + 1) z1 zeroFnd ?_; intro V2 r2 b2 z2
       have q1 := r1.below (by rw [z1]; exact b2)
       have T4 : Hid (W3.heap.size + 2 = V2.heap.size) := z2.symm
       have B4 : Hid (Below W3.heap.size W3 V2) := b1.trans (b2.mono (by omega))
       clear z1 r1 b1 b2 z2)
    | (have _q := T4; clear _q; refine wpList_store_rec rfl 70 (.tmp 7) (.tmp 15) rfl W3.heap.size 0 _ (fnd 2 y z F) rfl rfl q1 (by simp only [fnd_len]) (fnd_info _ _ _ _) (fnd_one _ _ _ _) ?_; intro V3 r3 b3
       have q2 := r2.but b3 (by omega)
       have B5 : Hid (Below W3.heap.size W3 V3) := B4.out.trans (b3.below (Nat.le_refl _) B4.out.size)
       clear B4 T4 b3 r2 q1)
    | (have _q := B5; clear _q; refine wpList_store_rec rfl 70 (.tmp 8) (.tmp 18) rfl (W3.heap.size + 1) 0 _ (fnd 2 y' z' G) rfl rfl q2 (by simp only [fnd_len]) (fnd_info _ _ _ _) (fnd_one _ _ _ _) ?_; intro W4 r4 b4
       have F4 : Below W3.heap.size W3 W4 := B5.out.trans (b4.below (by omega) B5.out.size)
       have N4 : Hid (w.heap.size < W3.heap.size) := R3.out.2.2
       have S4 : Hid (jS w W3.heap.size (fnd 2 y z F) (fnd 2 y' z' G) W4) := ⟨R3.out.below F4, r3.but b4 (by omega), r4, B3.out.trans (F4.mono B3.out.size)⟩
       have c7 : W4.cell? ⟨W3.heap.size, 0, none⟩ = some (.int .i64 2) := (S4.out.2.1.at 0 _ rfl).1
       have c8 : W4.cell? ⟨W3.heap.size + 1, 0, none⟩ = some (.int .i64 2) := (S4.out.2.2.1.at 0 _ rfl).1
       clear F4 B5 r3 r4 b4 q2 R3 B3)
    | (have _q := S4; clear _q; refine wpList_load_w (by rfl) 70 (.tmp 7) rfl W3.heap.size 0 (fnd 2 y z F) rfl _ Tryd.underlying70 rfl (fnd_info _ _ _ _) S4.out.2.1 ?_)
    | (have _q := S4; clear _q; refine wpList_load_w (by rfl) 70 (.tmp 8) rfl (W3.heap.size + 1) 0 (fnd 2 y' z' G) rfl _ Tryd.underlying70 rfl (fnd_info _ _ _ _) S4.out.2.2.1 ?_)
    | (have _q := S4; clear _q; go_at_call 42; refine (same_found 2 y z 2 y' z' F G _ HF.out HG.out).mono ?_; rintro e W5 ⟨rfl, hB⟩; rw [HE.out]
       have S5 : Hid (jS w W3.heap.size (fnd 2 y z F) (fnd 2 y' z' G) W5) := S4.out.below hB
       clear hB S4 c7 c8
       have c7 : W5.cell? ⟨W3.heap.size, 0, none⟩ = some (.int .i64 2) := (S5.out.2.1.at 0 _ rfl).1
       have c8 : W5.cell? ⟨W3.heap.size + 1, 0, none⟩ = some (.int .i64 2) := (S5.out.2.2.1.at 0 _ rfl).1)
    | (have _q := S5; clear _q; refine wpList_load_w (by rfl) 70 (.tmp 7) rfl W3.heap.size 0 (fnd 2 y z F) rfl _ Tryd.underlying70 rfl (fnd_info _ _ _ _) S5.out.2.1 ?_)
    | (have _q := S5; clear _q; refine wpList_load_w (by rfl) 70 (.tmp 8) rfl (W3.heap.size + 1) 0 (fnd 2 y' z' G) rfl _ Tryd.underlying70 rfl (fnd_info _ _ _ _) S5.out.2.2.1 ?_)
    | (have _q := S5; clear _q; go_at_call 44; refine (older_found 2 y z 2 y' z' F G _).mono ?_; rintro e W6 ⟨rfl, hB⟩; rw [HO.out]
       have S6 : Hid (jS w W3.heap.size (fnd 2 y z F) (fnd 2 y' z' G) W6) := S5.out.below hB
       clear hB S5 c7 c8
       have c7 : W6.cell? ⟨W3.heap.size, 0, none⟩ = some (.int .i64 2) := (S6.out.2.1.at 0 _ rfl).1
       have c8 : W6.cell? ⟨W3.heap.size + 1, 0, none⟩ = some (.int .i64 2) := (S6.out.2.2.1.at 0 _ rfl).1)
    | (have _q := S6; clear _q; refine wpList_load_w (by rfl) 70 (.tmp 7) rfl W3.heap.size 0 (fnd 2 y z F) rfl _ Tryd.underlying70 rfl (fnd_info _ _ _ _) S6.out.2.1 ?_)
    | (have _q := S6; clear _q; refine wpList_load_w (by rfl) 70 (.tmp 8) rfl (W3.heap.size + 1) 0 (fnd 2 y' z' G) rfl _ Tryd.underlying70 rfl (fnd_info _ _ _ _) S6.out.2.2.1 ?_)
    | (have _q := S6; clear _q; go_at_call 43; refine (state_found 2 y z 3 false F _).mono ?_; rintro e W7 ⟨rfl, hB⟩
       have S7 : Hid (jS w W3.heap.size (fnd 2 y z F) (fnd 2 y' z' G) W7) := S6.out.below hB
       clear hB S6 c7 c8
       have c7 : W7.cell? ⟨W3.heap.size, 0, none⟩ = some (.int .i64 2) := (S7.out.2.1.at 0 _ rfl).1
       have c8 : W7.cell? ⟨W3.heap.size + 1, 0, none⟩ = some (.int .i64 2) := (S7.out.2.2.1.at 0 _ rfl).1)
    | (have _q := S7; clear _q; refine wpList_store_rec rfl 45 (.tmp 6) (.tmp 57) rfl w.heap.size 0 _ (ss 3 y z false) rfl rfl S7.out.1 rfl (by kernel_rfl) (ss_one _ _ _ _) ?_; intro W9 hR9 hB9))
  have hl := hR9.run_load 45 _ Tryd.underlying45 rfl (by kernel_rfl)
  refine bodyPost_ret (v := .agg (ss 3 y z false).toArray) (by simp [results, Tryd.results22, asAddr, Act.put, hl]) rfl ⟨rfl, S7.out.2.2.2.trans (hB9.below (Nat.le_refl _) S7.out.2.2.2.size)⟩
set_option maxRecDepth 100000 in
set_option maxHeartbeats 1000000 in
theorem judge_mend0 (a a' : Option Addr) (n C n' C' : Nat) (f f' : Nat → Int) (k : Int) (w : World) (y z y' z' : Int) (F G : Nat → Int) (hj : JArg a n C f a' n' C' f' w) (hk : isSl k = true) (hh : FhIs a n C f k (fnd 0 y z F)) (hp : FpIs a' n' C' f' k (fnd 2 y' z' G))  :
    Calls Tryd.prog 22 #[.slice a n C, .slice a' n' C', .int .i64 k] w fun e w' => e = .returned (.agg (ss 1 y' z' true).toArray) ∧ Below w.heap.size w w' := by
  have HK : Hid (isSl k = true) := hk
  have HJ : Hid (JArg a n C f a' n' C' f' w) := hj
  have HH : Hid (FhIs a n C f k (fnd 0 y z F)) := hh
  have HP : Hid (FpIs a' n' C' f' k (fnd 2 y' z' G)) := hp
  clear hk hj hh hp
  have T0 : Hid True := trivial
  go_enter Tryd.func22, Tryd.ntmps22
  go_wp2_with (first
    | (have _q := T0; clear _q; refine wpList_alloc_rec rfl 45 rfl (ss 0 0 0 false) w.heap.size rfl zeroSs ?_; intro W1 hR1 hB1 hz1
       have R1 : Hid (Rec19 W1 w.heap.size 0 (ss 0 0 0 false)) := hR1
       have B1 : Hid (Below w.heap.size w W1) := hB1
       clear hR1 hB1 hz1 T0)
    | (have _q := B1; clear _q; go_at_call 35; refine (isSlot_any k _).mono ?_; rintro e w3 ⟨rfl, rfl⟩; rw [HK.out])
    | (have _q := B1; clear _q; go_at_call 40; refine (HH.out _ (HJ.out.below B1.out).tab (HJ.out.below B1.out).arg).mono ?_; rintro e W2 ⟨rfl, hB2⟩
       have R2 : Hid (Rec19 W2 w.heap.size 0 (ss 0 0 0 false)) := R1.out.below hB2
       have B2 : Hid (Below w.heap.size w W2) := B1.out.trans (hB2.mono B1.out.size)
       clear hB2 R1 B1)
    | (have _q := B2; clear _q; go_at_call 41; refine (HP.out _ (HJ.out.below B2.out).tab (HJ.out.below B2.out).arg').mono ?_; rintro e W3 ⟨rfl, hB3⟩
       have R3 : Hid (Rec19 W3 w.heap.size 0 (ss 0 0 0 false)) := R2.out.below hB3
       have B3 : Hid (Below w.heap.size w W3) := B2.out.trans (hB3.mono B2.out.size)
       have T3 : Hid True := trivial
       clear hB3 R2 B2)
    | (have _q := T3; clear _q; refine wpList_alloc_rec rfl 70 rfl (fnd 0 0 0 (fun _ => 0)) W3.heap.size rfl zeroFnd ?_; intro V1 r1 b1 z1
       clear T3)
    | (have _q := z1; clear _q; refine wpList_alloc_rec rfl 70 rfl (fnd 0 0 0 (fun _ => 0)) (W3.heap.size + 1) z1 zeroFnd ?_; intro V2 r2 b2 z2
       have q1 := r1.below (by rw [z1]; exact b2)
       have T4 : Hid (W3.heap.size + 2 = V2.heap.size) := z2.symm
       have B4 : Hid (Below W3.heap.size W3 V2) := b1.trans (b2.mono (by omega))
       clear z1 r1 b1 b2 z2)
    | (have _q := T4; clear _q; refine wpList_store_rec rfl 70 (.tmp 7) (.tmp 15) rfl W3.heap.size 0 _ (fnd 0 y z F) rfl rfl q1 (by simp only [fnd_len]) (fnd_info _ _ _ _) (fnd_one _ _ _ _) ?_; intro V3 r3 b3
       have q2 := r2.but b3 (by omega)
       have B5 : Hid (Below W3.heap.size W3 V3) := B4.out.trans (b3.below (Nat.le_refl _) B4.out.size)
       clear B4 T4 b3 r2 q1)
    | (have _q := B5; clear _q; refine wpList_store_rec rfl 70 (.tmp 8) (.tmp 18) rfl (W3.heap.size + 1) 0 _ (fnd 2 y' z' G) rfl rfl q2 (by simp only [fnd_len]) (fnd_info _ _ _ _) (fnd_one _ _ _ _) ?_; intro W4 r4 b4
       have F4 : Below W3.heap.size W3 W4 := B5.out.trans (b4.below (by omega) B5.out.size)
       have N4 : Hid (w.heap.size < W3.heap.size) := R3.out.2.2
       have S4 : Hid (jS w W3.heap.size (fnd 0 y z F) (fnd 2 y' z' G) W4) := ⟨R3.out.below F4, r3.but b4 (by omega), r4, B3.out.trans (F4.mono B3.out.size)⟩
       have c7 : W4.cell? ⟨W3.heap.size, 0, none⟩ = some (.int .i64 0) := (S4.out.2.1.at 0 _ rfl).1
       have c8 : W4.cell? ⟨W3.heap.size + 1, 0, none⟩ = some (.int .i64 2) := (S4.out.2.2.1.at 0 _ rfl).1
       clear F4 B5 r3 r4 b4 q2 R3 B3)
    | (have _q := S4; clear _q; refine wpList_load_w (by rfl) 70 (.tmp 7) rfl W3.heap.size 0 (fnd 0 y z F) rfl _ Tryd.underlying70 rfl (fnd_info _ _ _ _) S4.out.2.1 ?_)
    | (have _q := S4; clear _q; refine wpList_load_w (by rfl) 70 (.tmp 8) rfl (W3.heap.size + 1) 0 (fnd 2 y' z' G) rfl _ Tryd.underlying70 rfl (fnd_info _ _ _ _) S4.out.2.2.1 ?_)
    | (have _q := S4; clear _q; go_at_call 43; refine (state_found 2 y' z' 1 true G _).mono ?_; rintro e W6 ⟨rfl, hB⟩
       have S6 : Hid (jS w W3.heap.size (fnd 0 y z F) (fnd 2 y' z' G) W6) := S4.out.below hB
       clear hB S4 c7 c8
       have c7 : W6.cell? ⟨W3.heap.size, 0, none⟩ = some (.int .i64 0) := (S6.out.2.1.at 0 _ rfl).1
       have c8 : W6.cell? ⟨W3.heap.size + 1, 0, none⟩ = some (.int .i64 2) := (S6.out.2.2.1.at 0 _ rfl).1)
    | (have _q := S6; clear _q; refine wpList_store_rec rfl 45 (.tmp 6) (.tmp 51) rfl w.heap.size 0 _ (ss 1 y' z' true) rfl rfl S6.out.1 rfl (by kernel_rfl) (ss_one _ _ _ _) ?_; intro W9 hR9 hB9))
  have hl := hR9.run_load 45 _ Tryd.underlying45 rfl (by kernel_rfl)
  refine bodyPost_ret (v := .agg (ss 1 y' z' true).toArray) (by simp [results, Tryd.results22, asAddr, Act.put, hl]) rfl ⟨rfl, S6.out.2.2.2.trans (hB9.below (Nat.le_refl _) S6.out.2.2.2.size)⟩
set_option maxRecDepth 100000 in
set_option maxHeartbeats 1000000 in
theorem judge_mend1 (a a' : Option Addr) (n C n' C' : Nat) (f f' : Nat → Int) (k : Int) (w : World) (y z y' z' : Int) (F G : Nat → Int) (hj : JArg a n C f a' n' C' f' w) (hk : isSl k = true) (hh : FhIs a n C f k (fnd 1 y z F)) (hp : FpIs a' n' C' f' k (fnd 2 y' z' G))  :
    Calls Tryd.prog 22 #[.slice a n C, .slice a' n' C', .int .i64 k] w fun e w' => e = .returned (.agg (ss 1 y' z' true).toArray) ∧ Below w.heap.size w w' := by
  have HK : Hid (isSl k = true) := hk
  have HJ : Hid (JArg a n C f a' n' C' f' w) := hj
  have HH : Hid (FhIs a n C f k (fnd 1 y z F)) := hh
  have HP : Hid (FpIs a' n' C' f' k (fnd 2 y' z' G)) := hp
  clear hk hj hh hp
  have T0 : Hid True := trivial
  go_enter Tryd.func22, Tryd.ntmps22
  go_wp2_with (first
    | (have _q := T0; clear _q; refine wpList_alloc_rec rfl 45 rfl (ss 0 0 0 false) w.heap.size rfl zeroSs ?_; intro W1 hR1 hB1 hz1
       have R1 : Hid (Rec19 W1 w.heap.size 0 (ss 0 0 0 false)) := hR1
       have B1 : Hid (Below w.heap.size w W1) := hB1
       clear hR1 hB1 hz1 T0)
    | (have _q := B1; clear _q; go_at_call 35; refine (isSlot_any k _).mono ?_; rintro e w3 ⟨rfl, rfl⟩; rw [HK.out])
    | (have _q := B1; clear _q; go_at_call 40; refine (HH.out _ (HJ.out.below B1.out).tab (HJ.out.below B1.out).arg).mono ?_; rintro e W2 ⟨rfl, hB2⟩
       have R2 : Hid (Rec19 W2 w.heap.size 0 (ss 0 0 0 false)) := R1.out.below hB2
       have B2 : Hid (Below w.heap.size w W2) := B1.out.trans (hB2.mono B1.out.size)
       clear hB2 R1 B1)
    | (have _q := B2; clear _q; go_at_call 41; refine (HP.out _ (HJ.out.below B2.out).tab (HJ.out.below B2.out).arg').mono ?_; rintro e W3 ⟨rfl, hB3⟩
       have R3 : Hid (Rec19 W3 w.heap.size 0 (ss 0 0 0 false)) := R2.out.below hB3
       have B3 : Hid (Below w.heap.size w W3) := B2.out.trans (hB3.mono B2.out.size)
       have T3 : Hid True := trivial
       clear hB3 R2 B2)
    | (have _q := T3; clear _q; refine wpList_alloc_rec rfl 70 rfl (fnd 0 0 0 (fun _ => 0)) W3.heap.size rfl zeroFnd ?_; intro V1 r1 b1 z1
       clear T3)
    | (have _q := z1; clear _q; refine wpList_alloc_rec rfl 70 rfl (fnd 0 0 0 (fun _ => 0)) (W3.heap.size + 1) z1 zeroFnd ?_; intro V2 r2 b2 z2
       have q1 := r1.below (by rw [z1]; exact b2)
       have T4 : Hid (W3.heap.size + 2 = V2.heap.size) := z2.symm
       have B4 : Hid (Below W3.heap.size W3 V2) := b1.trans (b2.mono (by omega))
       clear z1 r1 b1 b2 z2)
    | (have _q := T4; clear _q; refine wpList_store_rec rfl 70 (.tmp 7) (.tmp 15) rfl W3.heap.size 0 _ (fnd 1 y z F) rfl rfl q1 (by simp only [fnd_len]) (fnd_info _ _ _ _) (fnd_one _ _ _ _) ?_; intro V3 r3 b3
       have q2 := r2.but b3 (by omega)
       have B5 : Hid (Below W3.heap.size W3 V3) := B4.out.trans (b3.below (Nat.le_refl _) B4.out.size)
       clear B4 T4 b3 r2 q1)
    | (have _q := B5; clear _q; refine wpList_store_rec rfl 70 (.tmp 8) (.tmp 18) rfl (W3.heap.size + 1) 0 _ (fnd 2 y' z' G) rfl rfl q2 (by simp only [fnd_len]) (fnd_info _ _ _ _) (fnd_one _ _ _ _) ?_; intro W4 r4 b4
       have F4 : Below W3.heap.size W3 W4 := B5.out.trans (b4.below (by omega) B5.out.size)
       have N4 : Hid (w.heap.size < W3.heap.size) := R3.out.2.2
       have S4 : Hid (jS w W3.heap.size (fnd 1 y z F) (fnd 2 y' z' G) W4) := ⟨R3.out.below F4, r3.but b4 (by omega), r4, B3.out.trans (F4.mono B3.out.size)⟩
       have c7 : W4.cell? ⟨W3.heap.size, 0, none⟩ = some (.int .i64 1) := (S4.out.2.1.at 0 _ rfl).1
       have c8 : W4.cell? ⟨W3.heap.size + 1, 0, none⟩ = some (.int .i64 2) := (S4.out.2.2.1.at 0 _ rfl).1
       clear F4 B5 r3 r4 b4 q2 R3 B3)
    | (have _q := S4; clear _q; refine wpList_load_w (by rfl) 70 (.tmp 7) rfl W3.heap.size 0 (fnd 1 y z F) rfl _ Tryd.underlying70 rfl (fnd_info _ _ _ _) S4.out.2.1 ?_)
    | (have _q := S4; clear _q; refine wpList_load_w (by rfl) 70 (.tmp 8) rfl (W3.heap.size + 1) 0 (fnd 2 y' z' G) rfl _ Tryd.underlying70 rfl (fnd_info _ _ _ _) S4.out.2.2.1 ?_)
    | (have _q := S4; clear _q; go_at_call 43; refine (state_found 2 y' z' 1 true G _).mono ?_; rintro e W6 ⟨rfl, hB⟩
       have S6 : Hid (jS w W3.heap.size (fnd 1 y z F) (fnd 2 y' z' G) W6) := S4.out.below hB
       clear hB S4 c7 c8
       have c7 : W6.cell? ⟨W3.heap.size, 0, none⟩ = some (.int .i64 1) := (S6.out.2.1.at 0 _ rfl).1
       have c8 : W6.cell? ⟨W3.heap.size + 1, 0, none⟩ = some (.int .i64 2) := (S6.out.2.2.1.at 0 _ rfl).1)
    | (have _q := S6; clear _q; refine wpList_store_rec rfl 45 (.tmp 6) (.tmp 51) rfl w.heap.size 0 _ (ss 1 y' z' true) rfl rfl S6.out.1 rfl (by kernel_rfl) (ss_one _ _ _ _) ?_; intro W9 hR9 hB9))
  have hl := hR9.run_load 45 _ Tryd.underlying45 rfl (by kernel_rfl)
  refine bodyPost_ret (v := .agg (ss 1 y' z' true).toArray) (by simp [results, Tryd.results22, asAddr, Act.put, hl]) rfl ⟨rfl, S6.out.2.2.2.trans (hB9.below (Nat.le_refl _) S6.out.2.2.2.size)⟩
set_option maxRecDepth 100000 in
set_option maxHeartbeats 1000000 in
theorem judge_lost (a a' : Option Addr) (n C n' C' : Nat) (f f' : Nat → Int) (k : Int) (w : World) (y z y' z' : Int) (F G : Nat → Int) (hj : JArg a n C f a' n' C' f' w) (hk : isSl k = true) (hh : FhIs a n C f k (fnd 2 y z F)) (hp : FpIs a' n' C' f' k (fnd 0 y' z' G))  :
    Calls Tryd.prog 22 #[.slice a n C, .slice a' n' C', .int .i64 k] w fun e w' => e = .returned (.agg (ss 3 y z false).toArray) ∧ Below w.heap.size w w' := by
  have HK : Hid (isSl k = true) := hk
  have HJ : Hid (JArg a n C f a' n' C' f' w) := hj
  have HH : Hid (FhIs a n C f k (fnd 2 y z F)) := hh
  have HP : Hid (FpIs a' n' C' f' k (fnd 0 y' z' G)) := hp
  clear hk hj hh hp
  have T0 : Hid True := trivial
  go_enter Tryd.func22, Tryd.ntmps22
  go_wp2_with (first
    | (have _q := T0; clear _q; refine wpList_alloc_rec rfl 45 rfl (ss 0 0 0 false) w.heap.size rfl zeroSs ?_; intro W1 hR1 hB1 hz1
       have R1 : Hid (Rec19 W1 w.heap.size 0 (ss 0 0 0 false)) := hR1
       have B1 : Hid (Below w.heap.size w W1) := hB1
       clear hR1 hB1 hz1 T0)
    | (have _q := B1; clear _q; go_at_call 35; refine (isSlot_any k _).mono ?_; rintro e w3 ⟨rfl, rfl⟩; rw [HK.out])
    | (have _q := B1; clear _q; go_at_call 40; refine (HH.out _ (HJ.out.below B1.out).tab (HJ.out.below B1.out).arg).mono ?_; rintro e W2 ⟨rfl, hB2⟩
       have R2 : Hid (Rec19 W2 w.heap.size 0 (ss 0 0 0 false)) := R1.out.below hB2
       have B2 : Hid (Below w.heap.size w W2) := B1.out.trans (hB2.mono B1.out.size)
       clear hB2 R1 B1)
    | (have _q := B2; clear _q; go_at_call 41; refine (HP.out _ (HJ.out.below B2.out).tab (HJ.out.below B2.out).arg').mono ?_; rintro e W3 ⟨rfl, hB3⟩
       have R3 : Hid (Rec19 W3 w.heap.size 0 (ss 0 0 0 false)) := R2.out.below hB3
       have B3 : Hid (Below w.heap.size w W3) := B2.out.trans (hB3.mono B2.out.size)
       have T3 : Hid True := trivial
       clear hB3 R2 B2)
    | (have _q := T3; clear _q; refine wpList_alloc_rec rfl 70 rfl (fnd 0 0 0 (fun _ => 0)) W3.heap.size rfl zeroFnd ?_; intro V1 r1 b1 z1
       clear T3)
    | (have _q := z1; clear _q; refine wpList_alloc_rec rfl 70 rfl (fnd 0 0 0 (fun _ => 0)) (W3.heap.size + 1) z1 zeroFnd ?_; intro V2 r2 b2 z2
       have q1 := r1.below (by rw [z1]; exact b2)
       have T4 : Hid (W3.heap.size + 2 = V2.heap.size) := z2.symm
       have B4 : Hid (Below W3.heap.size W3 V2) := b1.trans (b2.mono (by omega))
       clear z1 r1 b1 b2 z2)
    | (have _q := T4; clear _q; refine wpList_store_rec rfl 70 (.tmp 7) (.tmp 15) rfl W3.heap.size 0 _ (fnd 2 y z F) rfl rfl q1 (by simp only [fnd_len]) (fnd_info _ _ _ _) (fnd_one _ _ _ _) ?_; intro V3 r3 b3
       have q2 := r2.but b3 (by omega)
       have B5 : Hid (Below W3.heap.size W3 V3) := B4.out.trans (b3.below (Nat.le_refl _) B4.out.size)
       clear B4 T4 b3 r2 q1)
    | (have _q := B5; clear _q; refine wpList_store_rec rfl 70 (.tmp 8) (.tmp 18) rfl (W3.heap.size + 1) 0 _ (fnd 0 y' z' G) rfl rfl q2 (by simp only [fnd_len]) (fnd_info _ _ _ _) (fnd_one _ _ _ _) ?_; intro W4 r4 b4
       have F4 : Below W3.heap.size W3 W4 := B5.out.trans (b4.below (by omega) B5.out.size)
       have N4 : Hid (w.heap.size < W3.heap.size) := R3.out.2.2
       have S4 : Hid (jS w W3.heap.size (fnd 2 y z F) (fnd 0 y' z' G) W4) := ⟨R3.out.below F4, r3.but b4 (by omega), r4, B3.out.trans (F4.mono B3.out.size)⟩
       have c7 : W4.cell? ⟨W3.heap.size, 0, none⟩ = some (.int .i64 2) := (S4.out.2.1.at 0 _ rfl).1
       have c8 : W4.cell? ⟨W3.heap.size + 1, 0, none⟩ = some (.int .i64 0) := (S4.out.2.2.1.at 0 _ rfl).1
       clear F4 B5 r3 r4 b4 q2 R3 B3))
  refine wp_load_mid (P := Tryd.prog) 70 (.tmp 7) rfl W3.heap.size 0 rfl (fnd 2 y z F) _ S4.out.2.1.1 Tryd.underlying70 rfl (fnd_info _ _ _ _) ?_
  go_wp2_with (first
    | (have _q := S4; clear _q; go_at_call 43; refine (state_found 2 y z 3 false F _).mono ?_; rintro e W6 ⟨rfl, hB⟩
       have S6 : Hid (jS w W3.heap.size (fnd 2 y z F) (fnd 0 y' z' G) W6) := S4.out.below hB
       clear hB S4 c7 c8
       have c7 : W6.cell? ⟨W3.heap.size, 0, none⟩ = some (.int .i64 2) := (S6.out.2.1.at 0 _ rfl).1
       have c8 : W6.cell? ⟨W3.heap.size + 1, 0, none⟩ = some (.int .i64 0) := (S6.out.2.2.1.at 0 _ rfl).1)
    | (have _q := S6; clear _q; refine wpList_store_rec rfl 45 (.tmp 6) (.tmp 57) rfl w.heap.size 0 _ (ss 3 y z false) rfl rfl S6.out.1 rfl (by kernel_rfl) (ss_one _ _ _ _) ?_; intro W9 hR9 hB9))
  have hl := hR9.run_load 45 _ Tryd.underlying45 rfl (by kernel_rfl)
  refine bodyPost_ret (v := .agg (ss 3 y z false).toArray) (by simp [results, Tryd.results22, asAddr, Act.put, hl]) rfl ⟨rfl, S6.out.2.2.2.trans (hB9.below (Nat.le_refl _) S6.out.2.2.2.size)⟩
set_option maxRecDepth 100000 in
set_option maxHeartbeats 1000000 in
theorem judge_bad (a a' : Option Addr) (n C n' C' : Nat) (f f' : Nat → Int) (k : Int) (w : World) (y z y' z' : Int) (F G : Nat → Int) (hj : JArg a n C f a' n' C' f' w) (hk : isSl k = true) (hh : FhIs a n C f k (fnd 0 y z F)) (hp : FpIs a' n' C' f' k (fnd 0 y' z' G))  :
    Calls Tryd.prog 22 #[.slice a n C, .slice a' n' C', .int .i64 k] w fun e w' => e = .returned (.agg (ss 3 0 0 false).toArray) ∧ Below w.heap.size w w' := by
  have HK : Hid (isSl k = true) := hk
  have HJ : Hid (JArg a n C f a' n' C' f' w) := hj
  have HH : Hid (FhIs a n C f k (fnd 0 y z F)) := hh
  have HP : Hid (FpIs a' n' C' f' k (fnd 0 y' z' G)) := hp
  clear hk hj hh hp
  have T0 : Hid True := trivial
  go_enter Tryd.func22, Tryd.ntmps22
  go_wp2_with (first
    | (have _q := T0; clear _q; refine wpList_alloc_rec rfl 45 rfl (ss 0 0 0 false) w.heap.size rfl zeroSs ?_; intro W1 hR1 hB1 hz1
       have R1 : Hid (Rec19 W1 w.heap.size 0 (ss 0 0 0 false)) := hR1
       have B1 : Hid (Below w.heap.size w W1) := hB1
       clear hR1 hB1 hz1 T0)
    | (have _q := B1; clear _q; go_at_call 35; refine (isSlot_any k _).mono ?_; rintro e w3 ⟨rfl, rfl⟩; rw [HK.out])
    | (have _q := B1; clear _q; go_at_call 40; refine (HH.out _ (HJ.out.below B1.out).tab (HJ.out.below B1.out).arg).mono ?_; rintro e W2 ⟨rfl, hB2⟩
       have R2 : Hid (Rec19 W2 w.heap.size 0 (ss 0 0 0 false)) := R1.out.below hB2
       have B2 : Hid (Below w.heap.size w W2) := B1.out.trans (hB2.mono B1.out.size)
       clear hB2 R1 B1)
    | (have _q := B2; clear _q; go_at_call 41; refine (HP.out _ (HJ.out.below B2.out).tab (HJ.out.below B2.out).arg').mono ?_; rintro e W3 ⟨rfl, hB3⟩
       have R3 : Hid (Rec19 W3 w.heap.size 0 (ss 0 0 0 false)) := R2.out.below hB3
       have B3 : Hid (Below w.heap.size w W3) := B2.out.trans (hB3.mono B2.out.size)
       have T3 : Hid True := trivial
       clear hB3 R2 B2)
    | (have _q := T3; clear _q; refine wpList_alloc_rec rfl 70 rfl (fnd 0 0 0 (fun _ => 0)) W3.heap.size rfl zeroFnd ?_; intro V1 r1 b1 z1
       clear T3)
    | (have _q := z1; clear _q; refine wpList_alloc_rec rfl 70 rfl (fnd 0 0 0 (fun _ => 0)) (W3.heap.size + 1) z1 zeroFnd ?_; intro V2 r2 b2 z2
       have q1 := r1.below (by rw [z1]; exact b2)
       have T4 : Hid (W3.heap.size + 2 = V2.heap.size) := z2.symm
       have B4 : Hid (Below W3.heap.size W3 V2) := b1.trans (b2.mono (by omega))
       clear z1 r1 b1 b2 z2)
    | (have _q := T4; clear _q; refine wpList_store_rec rfl 70 (.tmp 7) (.tmp 15) rfl W3.heap.size 0 _ (fnd 0 y z F) rfl rfl q1 (by simp only [fnd_len]) (fnd_info _ _ _ _) (fnd_one _ _ _ _) ?_; intro V3 r3 b3
       have q2 := r2.but b3 (by omega)
       have B5 : Hid (Below W3.heap.size W3 V3) := B4.out.trans (b3.below (Nat.le_refl _) B4.out.size)
       clear B4 T4 b3 r2 q1)
    | (have _q := B5; clear _q; refine wpList_store_rec rfl 70 (.tmp 8) (.tmp 18) rfl (W3.heap.size + 1) 0 _ (fnd 0 y' z' G) rfl rfl q2 (by simp only [fnd_len]) (fnd_info _ _ _ _) (fnd_one _ _ _ _) ?_; intro W4 r4 b4
       have F4 : Below W3.heap.size W3 W4 := B5.out.trans (b4.below (by omega) B5.out.size)
       have N4 : Hid (w.heap.size < W3.heap.size) := R3.out.2.2
       have S4 : Hid (jS w W3.heap.size (fnd 0 y z F) (fnd 0 y' z' G) W4) := ⟨R3.out.below F4, r3.but b4 (by omega), r4, B3.out.trans (F4.mono B3.out.size)⟩
       have c7 : W4.cell? ⟨W3.heap.size, 0, none⟩ = some (.int .i64 0) := (S4.out.2.1.at 0 _ rfl).1
       have c8 : W4.cell? ⟨W3.heap.size + 1, 0, none⟩ = some (.int .i64 0) := (S4.out.2.2.1.at 0 _ rfl).1
       obtain ⟨d0, g0⟩ := S4.out.1.at 0 (.int .i64 0) rfl
       obtain ⟨d1, g1⟩ := S4.out.1.at 1 (.int .i64 0) rfl
       obtain ⟨d2, g2⟩ := S4.out.1.at 2 (.int .i64 0) rfl
       obtain ⟨d3, g3⟩ := S4.out.1.at 3 (.bool false) rfl
       clear F4 B5 r3 r4 b4 q2 R3 B3))
  have hR9 : Rec19 ((((W4.setCell ⟨w.heap.size, 0, none⟩ (.int .i64 3)).setCell ⟨w.heap.size, 1, none⟩ (.int .i64 0)).setCell ⟨w.heap.size, 2, none⟩ (.int .i64 0)).setCell ⟨w.heap.size, 3, none⟩ (.bool false)) w.heap.size 0 (ss 3 0 0 false) := S4.out.1.store (ss 3 0 0 false) rfl
  have hB9 : Below w.heap.size w ((((W4.setCell ⟨w.heap.size, 0, none⟩ (.int .i64 3)).setCell ⟨w.heap.size, 1, none⟩ (.int .i64 0)).setCell ⟨w.heap.size, 2, none⟩ (.int .i64 0)).setCell ⟨w.heap.size, 3, none⟩ (.bool false)) := (((S4.out.2.2.2.setCell (Nat.le_refl _) _).setCell (Nat.le_refl _) _).setCell (Nat.le_refl _) _).setCell (Nat.le_refl _) _
  generalize (((W4.setCell ⟨w.heap.size, 0, none⟩ (.int .i64 3)).setCell ⟨w.heap.size, 1, none⟩ (.int .i64 0)).setCell ⟨w.heap.size, 2, none⟩ (.int .i64 0)).setCell ⟨w.heap.size, 3, none⟩ (.bool false) = W9 at hR9 hB9 ⊢
  have hl := hR9.run_load 45 _ Tryd.underlying45 rfl (by kernel_rfl)
  refine bodyPost_ret (v := .agg (ss 3 0 0 false).toArray) (by simp [results, Tryd.results22, asAddr, hl]) rfl ⟨rfl, hB9⟩
set_option maxRecDepth 100000 in
set_option maxHeartbeats 1000000 in
theorem judge_empty (a a' : Option Addr) (n C n' C' : Nat) (f f' : Nat → Int) (k : Int) (w : World) (y z y' z' : Int) (F G : Nat → Int) (hj : JArg a n C f a' n' C' f' w) (hk : isSl k = true) (hh : FhIs a n C f k (fnd 1 y z F)) (hp : FpIs a' n' C' f' k (fnd 0 y' z' G)) (hn : NgOk a' n' C' f') (hz : zeroN n' f' = true) :
    Calls Tryd.prog 22 #[.slice a n C, .slice a' n' C', .int .i64 k] w fun e w' => e = .returned (.agg (ss 4 0 0 false).toArray) ∧ Below w.heap.size w w' := by
  have HK : Hid (isSl k = true) := hk
  have HJ : Hid (JArg a n C f a' n' C' f' w) := hj
  have HH : Hid (FhIs a n C f k (fnd 1 y z F)) := hh
  have HP : Hid (FpIs a' n' C' f' k (fnd 0 y' z' G)) := hp
  clear hk hj hh hp
  have HN : Hid (NgOk a' n' C' f') := hn
  have HZ : Hid (zeroN n' f' = true) := hz
  clear hn hz
  have T0 : Hid True := trivial
  go_enter Tryd.func22, Tryd.ntmps22
  go_wp2_with (first
    | (have _q := T0; clear _q; refine wpList_alloc_rec rfl 45 rfl (ss 0 0 0 false) w.heap.size rfl zeroSs ?_; intro W1 hR1 hB1 hz1
       have R1 : Hid (Rec19 W1 w.heap.size 0 (ss 0 0 0 false)) := hR1
       have B1 : Hid (Below w.heap.size w W1) := hB1
       clear hR1 hB1 hz1 T0)
    | (have _q := B1; clear _q; go_at_call 35; refine (isSlot_any k _).mono ?_; rintro e w3 ⟨rfl, rfl⟩; rw [HK.out])
    | (have _q := B1; clear _q; go_at_call 40; refine (HH.out _ (HJ.out.below B1.out).tab (HJ.out.below B1.out).arg).mono ?_; rintro e W2 ⟨rfl, hB2⟩
       have R2 : Hid (Rec19 W2 w.heap.size 0 (ss 0 0 0 false)) := R1.out.below hB2
       have B2 : Hid (Below w.heap.size w W2) := B1.out.trans (hB2.mono B1.out.size)
       clear hB2 R1 B1)
    | (have _q := B2; clear _q; go_at_call 41; refine (HP.out _ (HJ.out.below B2.out).tab (HJ.out.below B2.out).arg').mono ?_; rintro e W3 ⟨rfl, hB3⟩
       have R3 : Hid (Rec19 W3 w.heap.size 0 (ss 0 0 0 false)) := R2.out.below hB3
       have B3 : Hid (Below w.heap.size w W3) := B2.out.trans (hB3.mono B2.out.size)
       have T3 : Hid True := trivial
       clear hB3 R2 B2)
    | (have _q := T3; clear _q; refine wpList_alloc_rec rfl 70 rfl (fnd 0 0 0 (fun _ => 0)) W3.heap.size rfl zeroFnd ?_; intro V1 r1 b1 z1
       clear T3)
    | (have _q := z1; clear _q; refine wpList_alloc_rec rfl 70 rfl (fnd 0 0 0 (fun _ => 0)) (W3.heap.size + 1) z1 zeroFnd ?_; intro V2 r2 b2 z2
       have q1 := r1.below (by rw [z1]; exact b2)
       have T4 : Hid (W3.heap.size + 2 = V2.heap.size) := z2.symm
       have B4 : Hid (Below W3.heap.size W3 V2) := b1.trans (b2.mono (by omega))
       clear z1 r1 b1 b2 z2)
    | (have _q := T4; clear _q; refine wpList_store_rec rfl 70 (.tmp 7) (.tmp 15) rfl W3.heap.size 0 _ (fnd 1 y z F) rfl rfl q1 (by simp only [fnd_len]) (fnd_info _ _ _ _) (fnd_one _ _ _ _) ?_; intro V3 r3 b3
       have q2 := r2.but b3 (by omega)
       have B5 : Hid (Below W3.heap.size W3 V3) := B4.out.trans (b3.below (Nat.le_refl _) B4.out.size)
       clear B4 T4 b3 r2 q1)
    | (have _q := B5; clear _q; refine wpList_store_rec rfl 70 (.tmp 8) (.tmp 18) rfl (W3.heap.size + 1) 0 _ (fnd 0 y' z' G) rfl rfl q2 (by simp only [fnd_len]) (fnd_info _ _ _ _) (fnd_one _ _ _ _) ?_; intro W4 r4 b4
       have F4 : Below W3.heap.size W3 W4 := B5.out.trans (b4.below (by omega) B5.out.size)
       have N4 : Hid (w.heap.size < W3.heap.size) := R3.out.2.2
       have S4 : Hid (jS w W3.heap.size (fnd 1 y z F) (fnd 0 y' z' G) W4) := ⟨R3.out.below F4, r3.but b4 (by omega), r4, B3.out.trans (F4.mono B3.out.size)⟩
       have c7 : W4.cell? ⟨W3.heap.size, 0, none⟩ = some (.int .i64 1) := (S4.out.2.1.at 0 _ rfl).1
       have c8 : W4.cell? ⟨W3.heap.size + 1, 0, none⟩ = some (.int .i64 0) := (S4.out.2.2.1.at 0 _ rfl).1
       clear F4 B5 r3 r4 b4 q2 R3 B3)
    | (have _q := S4; clear _q; go_at_call 45; refine (HN.out _ (HJ.out.below S4.out.2.2.2).arg').mono ?_; rintro e W5 ⟨rfl, hB⟩; rw [HZ.out]
       have S5 : Hid (jS w W3.heap.size (fnd 1 y z F) (fnd 0 y' z' G) W5) := S4.out.below hB
       clear hB S4 c7 c8
       have c7 : W5.cell? ⟨W3.heap.size, 0, none⟩ = some (.int .i64 1) := (S5.out.2.1.at 0 _ rfl).1
       have c8 : W5.cell? ⟨W3.heap.size + 1, 0, none⟩ = some (.int .i64 0) := (S5.out.2.2.1.at 0 _ rfl).1)
    | (have _q := S5; clear _q; refine wpList_build_to rfl 45 _ rfl (ss 4 0 0 false).toArray (by kernel_rfl) ?_)
    | (have _q := S5; clear _q; refine wpList_store_rec rfl 45 (.tmp 6) (.tmp 66) rfl w.heap.size 0 _ (ss 4 0 0 false) rfl rfl S5.out.1 rfl (by kernel_rfl) (ss_one _ _ _ _) ?_; intro W9 hR9 hB9))
  have hl := hR9.run_load 45 _ Tryd.underlying45 rfl (by kernel_rfl)
  refine bodyPost_ret (v := .agg (ss 4 0 0 false).toArray) (by simp [results, Tryd.results22, asAddr, Act.put, hl]) rfl ⟨rfl, S5.out.2.2.2.trans (hB9.below (Nat.le_refl _) S5.out.2.2.2.size)⟩
set_option maxRecDepth 100000 in
set_option maxHeartbeats 1000000 in
theorem judge_torn (a a' : Option Addr) (n C n' C' : Nat) (f f' : Nat → Int) (k : Int) (w : World) (y z y' z' : Int) (F G : Nat → Int) (hj : JArg a n C f a' n' C' f' w) (hk : isSl k = true) (hh : FhIs a n C f k (fnd 1 y z F)) (hp : FpIs a' n' C' f' k (fnd 0 y' z' G)) (hn : NgOk a' n' C' f') (hz : zeroN n' f' = false) :
    Calls Tryd.prog 22 #[.slice a n C, .slice a' n' C', .int .i64 k] w fun e w' => e = .returned (.agg (ss 2 0 0 false).toArray) ∧ Below w.heap.size w w' := by
  have HK : Hid (isSl k = true) := hk
  have HJ : Hid (JArg a n C f a' n' C' f' w) := hj
  have HH : Hid (FhIs a n C f k (fnd 1 y z F)) := hh
  have HP : Hid (FpIs a' n' C' f' k (fnd 0 y' z' G)) := hp
  clear hk hj hh hp
  have HN : Hid (NgOk a' n' C' f') := hn
  have HZ : Hid (zeroN n' f' = false) := hz
  clear hn hz
  have T0 : Hid True := trivial
  go_enter Tryd.func22, Tryd.ntmps22
  go_wp2_with (first
    | (have _q := T0; clear _q; refine wpList_alloc_rec rfl 45 rfl (ss 0 0 0 false) w.heap.size rfl zeroSs ?_; intro W1 hR1 hB1 hz1
       have R1 : Hid (Rec19 W1 w.heap.size 0 (ss 0 0 0 false)) := hR1
       have B1 : Hid (Below w.heap.size w W1) := hB1
       clear hR1 hB1 hz1 T0)
    | (have _q := B1; clear _q; go_at_call 35; refine (isSlot_any k _).mono ?_; rintro e w3 ⟨rfl, rfl⟩; rw [HK.out])
    | (have _q := B1; clear _q; go_at_call 40; refine (HH.out _ (HJ.out.below B1.out).tab (HJ.out.below B1.out).arg).mono ?_; rintro e W2 ⟨rfl, hB2⟩
       have R2 : Hid (Rec19 W2 w.heap.size 0 (ss 0 0 0 false)) := R1.out.below hB2
       have B2 : Hid (Below w.heap.size w W2) := B1.out.trans (hB2.mono B1.out.size)
       clear hB2 R1 B1)
    | (have _q := B2; clear _q; go_at_call 41; refine (HP.out _ (HJ.out.below B2.out).tab (HJ.out.below B2.out).arg').mono ?_; rintro e W3 ⟨rfl, hB3⟩
       have R3 : Hid (Rec19 W3 w.heap.size 0 (ss 0 0 0 false)) := R2.out.below hB3
       have B3 : Hid (Below w.heap.size w W3) := B2.out.trans (hB3.mono B2.out.size)
       have T3 : Hid True := trivial
       clear hB3 R2 B2)
    | (have _q := T3; clear _q; refine wpList_alloc_rec rfl 70 rfl (fnd 0 0 0 (fun _ => 0)) W3.heap.size rfl zeroFnd ?_; intro V1 r1 b1 z1
       clear T3)
    | (have _q := z1; clear _q; refine wpList_alloc_rec rfl 70 rfl (fnd 0 0 0 (fun _ => 0)) (W3.heap.size + 1) z1 zeroFnd ?_; intro V2 r2 b2 z2
       have q1 := r1.below (by rw [z1]; exact b2)
       have T4 : Hid (W3.heap.size + 2 = V2.heap.size) := z2.symm
       have B4 : Hid (Below W3.heap.size W3 V2) := b1.trans (b2.mono (by omega))
       clear z1 r1 b1 b2 z2)
    | (have _q := T4; clear _q; refine wpList_store_rec rfl 70 (.tmp 7) (.tmp 15) rfl W3.heap.size 0 _ (fnd 1 y z F) rfl rfl q1 (by simp only [fnd_len]) (fnd_info _ _ _ _) (fnd_one _ _ _ _) ?_; intro V3 r3 b3
       have q2 := r2.but b3 (by omega)
       have B5 : Hid (Below W3.heap.size W3 V3) := B4.out.trans (b3.below (Nat.le_refl _) B4.out.size)
       clear B4 T4 b3 r2 q1)
    | (have _q := B5; clear _q; refine wpList_store_rec rfl 70 (.tmp 8) (.tmp 18) rfl (W3.heap.size + 1) 0 _ (fnd 0 y' z' G) rfl rfl q2 (by simp only [fnd_len]) (fnd_info _ _ _ _) (fnd_one _ _ _ _) ?_; intro W4 r4 b4
       have F4 : Below W3.heap.size W3 W4 := B5.out.trans (b4.below (by omega) B5.out.size)
       have N4 : Hid (w.heap.size < W3.heap.size) := R3.out.2.2
       have S4 : Hid (jS w W3.heap.size (fnd 1 y z F) (fnd 0 y' z' G) W4) := ⟨R3.out.below F4, r3.but b4 (by omega), r4, B3.out.trans (F4.mono B3.out.size)⟩
       have c7 : W4.cell? ⟨W3.heap.size, 0, none⟩ = some (.int .i64 1) := (S4.out.2.1.at 0 _ rfl).1
       have c8 : W4.cell? ⟨W3.heap.size + 1, 0, none⟩ = some (.int .i64 0) := (S4.out.2.2.1.at 0 _ rfl).1
       clear F4 B5 r3 r4 b4 q2 R3 B3)
    | (have _q := S4; clear _q; go_at_call 45; refine (HN.out _ (HJ.out.below S4.out.2.2.2).arg').mono ?_; rintro e W5 ⟨rfl, hB⟩; rw [HZ.out]
       have S5 : Hid (jS w W3.heap.size (fnd 1 y z F) (fnd 0 y' z' G) W5) := S4.out.below hB
       clear hB S4 c7 c8
       have c7 : W5.cell? ⟨W3.heap.size, 0, none⟩ = some (.int .i64 1) := (S5.out.2.1.at 0 _ rfl).1
       have c8 : W5.cell? ⟨W3.heap.size + 1, 0, none⟩ = some (.int .i64 0) := (S5.out.2.2.1.at 0 _ rfl).1)
    | (have _q := S5; clear _q; refine wpList_build_to rfl 45 _ rfl (ss 2 0 0 false).toArray (by kernel_rfl) ?_)
    | (have _q := S5; clear _q; refine wpList_store_rec rfl 45 (.tmp 6) (.tmp 19) rfl w.heap.size 0 _ (ss 2 0 0 false) rfl rfl S5.out.1 rfl (by kernel_rfl) (ss_one _ _ _ _) ?_; intro W9 hR9 hB9))
  have hl := hR9.run_load 45 _ Tryd.underlying45 rfl (by kernel_rfl)
  refine bodyPost_ret (v := .agg (ss 2 0 0 false).toArray) (by simp [results, Tryd.results22, asAddr, Act.put, hl]) rfl ⟨rfl, S5.out.2.2.2.trans (hB9.below (Nat.le_refl _) S5.out.2.2.2.size)⟩
end Go.Proofs.YtfpgkckcifjkcaaDoor
namespace Go.Proofs.YtfpgkckcifjkcaaDoor
open Go.RowKit
/-- How a slot is. -/
def judgeL (n : Nat) (f : Nat → Int) (n' : Nat) (f' : Nat → Int) (k : Int) : List Value :=
  if isSl k = false then ss 0 0 0 false
  else if prepOK n' f' k = true then
    (if fhK n f k = 2 then
      (if txtN 256 f = txtN 256 f' then ss 1 (hdrF f' 5) (hdrF f' 3) false
       else if olderB (hdrF f 5) (hdrF f 3) (hdrF f' 5) (hdrF f' 3) = true then ss 1 (hdrF f' 5) (hdrF f' 3) true
       else ss 3 (hdrF f 5) (hdrF f 3) false)
     else ss 1 (hdrF f' 5) (hdrF f' 3) true)
  else if fhK n f k = 2 then ss 3 (hdrF f 5) (hdrF f 3) false
  else if fhK n f k = 0 then ss 3 0 0 false
  else if zeroN n' f' = true then ss 4 0 0 false else ss 2 0 0 false
theorem fhK_cases (n : Nat) (f : Nat → Int) (k : Int) : fhK n f k = 2 ∨ fhK n f k = 0 ∨ fhK n f k = 1 := by
  unfold fhK
  split
  · split
    · exact .inl rfl
    · split
      · exact .inr (.inr rfl)
      · exact .inr (.inl rfl)
  · exact .inr (.inl rfl)
theorem fhK_two {n : Nat} {f : Nat → Int} {k : Int} (h : fhK n f k = 2) : n = 256 ∧ headCode f = 0 ∧ isPrep (hdrF f) k = true := by
  unfold fhK at h
  by_cases e : headC n f = 0
  · rw [if_pos e] at h
    by_cases e2 : isPrep (hdrF f) k = true
    · exact ⟨(headC_zero e).1, (headC_zero e).2, e2⟩
    · rw [if_neg e2] at h
      split at h <;> omega
  · rw [if_neg e] at h; omega
theorem judge_any (a a' : Option Addr) (n C n' C' : Nat) (f f' : Nat → Int) (k : Int) (w : World) (hT : Tab w) (hA : Arg w a n f) (hA' : Arg w a' n' f') (hC : n ≤ C) (hC' : n' ≤ C') (hm : n' ≤ 1000000) (hN : NgOk a' n' C' f') :
    Calls Tryd.prog 22 #[.slice a n C, .slice a' n' C', .int .i64 k] w fun e w' => e = .returned (.agg (judgeL n f n' f' k).toArray) ∧ Below w.heap.size w w' := by
  unfold judgeL
  by_cases hk : isSl k = true
  · rw [if_neg (by rw [hk]; decide)]
    have hj : JArg a n C f a' n' C' f' w := ⟨hT, hA, hA'⟩
    have hh : FhIs a n C f k (fhV n f k) := fun W hT hA => findHead_any a n C f k W hT hA hC
    have hp : FpIs a' n' C' f' k (fpV n' f' k) := fun W hT hA => findPrepare_any a' n' C' f' k W hT hA hC' hm
    unfold fhV at hh
    unfold fpV at hp
    by_cases h1 : prepOK n' f' k = true
    · rw [if_pos h1]
      rw [if_pos h1] at hp
      have h6 := (prepOK_iff.1 h1).1
      rcases fhK_cases n f k with h2 | h2 | h2
      · rw [if_pos h2]
        rw [if_pos h2] at hh
        obtain ⟨e, _, _⟩ := fhK_two h2
        have hF : ∀ j, j < 256 → 0 ≤ f j ∧ f j < 256 := fun j hj => hA.bytes j (by omega)
        have hG : ∀ j, j < 256 → 0 ≤ f' j ∧ f' j < 256 := fun j hj => hA'.bytes j (by omega)
        by_cases h3 : txtN 256 f = txtN 256 f'
        · rw [if_pos h3]
          exact judge_same a a' n C n' C' f f' k w _ _ _ _ f f' hj hk hh hp hF hG h3
        · rw [if_neg h3]
          by_cases h4 : olderB (hdrF f 5) (hdrF f 3) (hdrF f' 5) (hdrF f' 3) = true
          · rw [if_pos h4]
            exact judge_older a a' n C n' C' f f' k w _ _ _ _ f f' hj hk hh hp hF hG h3 h4
          · rw [if_neg h4]
            exact judge_other a a' n C n' C' f f' k w _ _ _ _ f f' hj hk hh hp hF hG h3 (by simpa using h4)
      · rw [if_neg (by rw [h2]; decide)]
        rw [if_neg (by rw [h2]; decide), h2] at hh
        exact judge_mend0 a a' n C n' C' f f' k w _ _ _ _ (fun _ => 0) f' hj hk hh hp
      · rw [if_neg (by rw [h2]; decide)]
        rw [if_neg (by rw [h2]; decide), h2] at hh
        exact judge_mend1 a a' n C n' C' f f' k w _ _ _ _ (fun _ => 0) f' hj hk hh hp
    · rw [if_neg h1]
      rw [if_neg h1] at hp
      rcases fhK_cases n f k with h2 | h2 | h2
      · rw [if_pos h2]
        rw [if_pos h2] at hh
        exact judge_lost a a' n C n' C' f f' k w _ _ _ _ f (fun _ => 0) hj hk hh hp
      · rw [if_neg (by rw [h2]; decide), if_pos h2]
        rw [if_neg (by rw [h2]; decide), h2] at hh
        exact judge_bad a a' n C n' C' f f' k w _ _ _ _ (fun _ => 0) (fun _ => 0) hj hk hh hp
      · rw [if_neg (by rw [h2]; decide), if_neg (by rw [h2]; decide)]
        rw [if_neg (by rw [h2]; decide), h2] at hh
        by_cases h3 : zeroN n' f' = true
        · rw [if_pos h3]
          exact judge_empty a a' n C n' C' f f' k w _ _ _ _ (fun _ => 0) (fun _ => 0) hj hk hh hp hN h3
        · rw [if_neg h3]
          exact judge_torn a a' n C n' C' f f' k w _ _ _ _ (fun _ => 0) (fun _ => 0) hj hk hh hp hN (by simpa using h3)
  · rw [if_pos (by simpa using hk)]
    exact judge_no a a' n C n' C' k w (by simpa using hk)
end Go.Proofs.YtfpgkckcifjkcaaDoor
namespace Go.Proofs.YtfpgkckcifjkcaaDoor
open Go.RowKit
theorem ps_head (f g : Nat → Int) (n : Nat) (h : ∀ j, j < 256 → f j = g j) (o c : Nat) (ho : o + c ≤ 256) (hn : n = c) : ps (fun i => f (o + i)) n = ps (fun i => g (o + i)) n := ps_congr _ _ n (fun j hj => h _ (by omega))
theorem hdrF_congr (f g : Nat → Int) (h : ∀ j, j < 256 → f j = g j) (j : Nat) (hj : j < 16) : hdrF f j = hdrF g j := by
  rcases pos_cover j hj with rfl | rfl | rfl | ⟨k, hk, rfl⟩
  · rw [hdrF_9, hdrF_9, ps_head f g 8 h 76 8 (by omega) rfl]
  · rw [hdrF_10, hdrF_10, ps_head f g 8 h 68 8 (by omega) rfl]
  · rw [hdrF_13, hdrF_13, ps_head f g 8 h 92 8 (by omega) rfl]
  · have : fat k + 4 ≤ 256 := by unfold fat; split <;> (try split) <;> omega
    rw [hdrF_num _ k hk, hdrF_num _ k hk, ps_head f g 4 h (fat k) 4 (by omega) rfl]
theorem headCode_congr (f g : Nat → Int) (h : ∀ j, j < 256 → f j = g j) : headCode f = headCode g := by
  have a : headSeal f = headSeal g := by
    unfold headSeal
    rw [sealF_congr 240 (fun j => f (16 + j)) (fun j => g (16 + j)) (fun j hj => h _ (by omega)), Bool.eq_iff_iff, eqN_iff, eqN_iff]
    exact ⟨fun k i hi => (k i hi).trans (h i (by omega)), fun k i hi => (k i hi).trans (h i (by omega)).symm⟩
  have b : headNone f = headNone g := by
    unfold headNone
    rw [Bool.eq_iff_iff, zeroN_iff, zeroN_iff]
    exact ⟨fun k i hi => (h _ (by omega)).symm.trans (k i hi), fun k i hi => (h _ (by omega)).trans (k i hi)⟩
  have c : okH (hdrF f) = okH (hdrF g) := okH_congr _ _ (hdrF_congr f g h)
  unfold headCode
  rw [a, b, c]
theorem bodySeal_congr (n : Nat) (hn : 256 ≤ n) (f g : Nat → Int) (h : ∀ j, j < n → f j = g j) : bodySeal n f = bodySeal n g := by
  unfold bodySeal
  rw [sealF_congr (n - 256) (fun j => f (256 + j)) (fun j => g (256 + j)) (fun j hj => h _ (by omega)), Bool.eq_iff_iff, eqN_iff, eqN_iff]
  exact ⟨fun k i hi => (k i hi).trans (h _ (by omega)), fun k i hi => (k i hi).trans (h _ (by omega)).symm⟩
theorem openCode_congr (n : Nat) (hn : 256 ≤ n) (f g : Nat → Int) (h : ∀ j, j < n → f j = g j) : openCode n f = openCode n g := by
  unfold openCode
  rw [headCode_congr f g (fun j hj => h j (by omega)), hdrF_congr f g (fun j hj => h j (by omega)) 2 (by omega), bodySeal_congr n hn f g h]
theorem isPrep_congr (h g : Nat → Int) (k : Int) (e : ∀ j, j < 16 → h j = g j) : isPrep h k = isPrep g k := by
  unfold isPrep
  rw [e 0 (by omega), e 5 (by omega)]
theorem prepOK_congr (n : Nat) (f g : Nat → Int) (k : Int) (h : ∀ j, j < n → f j = g j) : prepOK n f k = prepOK n g k := by
  by_cases hn : 256 ≤ n
  · have h0 : ∀ j, j < 256 → f j = g j := fun j hj => h j (by omega)
    have hc := headCode_congr f g h0
    have h2 := hdrF_congr f g h0 2 (by omega)
    have hp := isPrep_congr (hdrF f) (hdrF g) k (hdrF_congr f g h0)
    rw [Bool.eq_iff_iff, prepOK_iff, prepOK_iff, hc, h2, hp]
    refine and_congr_right fun a => and_congr_right fun b => and_congr_right fun c => and_congr_right fun d => ?_
    rw [openCode_congr _ (by omega) f g (fun j hj => h j (by have := size_range b; omega))]
  · have e : ∀ F : Nat → Int, prepOK n F k = false := fun F => by rw [Bool.eq_false_iff]; intro q; exact hn (prepOK_iff.1 q).1
    rw [e f, e g]
/-- A prepare's slot's bytes are whole. -/
theorem slot_whole (h f : Nat → Int) (n N : Nat) (k : Int) (hn : 256 + n ≤ N) (hok : okH (upd h 2 (n : Nat)) = true) (hw : Words h) (hp : isPrep h k = true) (F : Nat → Int) (hF : ∀ j, j < 256 + n → F j = msgF (upd h 2 (n : Nat)) n f j) :
    prepOK N F k = true ∧ (∀ j, j < 16 → hdrF F j = upd h 2 (n : Nat) j) ∧ headCode F = 0 := by
  obtain ⟨a, b, c⟩ := open_sealed (upd h 2 (n : Nat)) f n hok (hw.size _) (by unfold upd; rw [if_pos rfl])
  have h0 : ∀ j, j < 256 → F j = msgF (upd h 2 (n : Nat)) n f j := fun j hj => hF j (by omega)
  have hb : ∀ j, j < 16 → hdrF F j = upd h 2 (n : Nat) j := fun j hj => (hdrF_congr _ _ h0 j hj).trans (b j hj)
  have hc : headCode F = 0 := (headCode_congr _ _ h0).trans c
  have h2 : hdrF F 2 = (n : Int) := by rw [hb 2 (by omega)]; unfold upd; rw [if_pos rfl]
  refine ⟨prepOK_iff.2 ⟨by omega, hc, ?_, by rw [h2]; omega, ?_⟩, hb, hc⟩
  · rw [isPrep_congr _ _ k hb]; exact hp
  · rw [h2, Int.toNat_natCast, openCode_congr _ (by omega) _ _ hF, a]
/-- And so is its header. -/
theorem head_whole {n : Nat} {F : Nat → Int} {k : Int} (hn : n = 256) (hc : headCode F = 0) (hp : isPrep (hdrF F) k = true) : fhK n F k = 2 := by
  have e : headC n F = 0 := by unfold headC; rw [if_pos hn, hc]
  unfold fhK
  rw [if_pos e, if_pos hp]
/-- What says that a slot is unwritten is found so. -/
theorem unw_found {k : Int} (hk : isSl k = true) : fhK 256 (unwF k) k = 1 := by
  obtain ⟨_, b, c⟩ := open_sealed (upd (unwH k) 2 ((0 : Nat) : Int)) (fun _ => 0) 0 (unw_ok hk) ((unw_words k).size _) rfl
  have e : headC 256 (unwF k) = 0 := by unfold headC; rw [if_pos rfl]; exact c
  have hp : ¬ isPrep (hdrF (unwF k)) k = true := by
    rw [show isPrep (hdrF (unwF k)) k = _ from isPrep_congr _ _ k b]
    intro h
    unfold isPrep at h
    rw [Bool.and_eq_true, decide_eq_true_iff] at h
    have := h.1
    revert this
    show (1 : Int) = 2 → False
    decide
  have hu : isUnw 256 (unwF k) k = true := by unfold isUnw; rw [hk]; simp
  unfold fhK
  rw [if_pos e, if_neg hp, if_pos hu]
/-- Bytes that are no header are found broken. -/
theorem bad_found {n : Nat} {f : Nat → Int} {k : Int} (h : headC n f ≠ 0) : fhK n f k = 0 := by
  unfold fhK
  rw [if_neg h]
theorem prep_bad {n : Nat} {f : Nat → Int} {k : Int} (h : headCode f ≠ 0) : prepOK n f k = false := by
  rw [Bool.eq_false_iff]
  intro e
  exact h (prepOK_iff.1 e).2.1
theorem zeros_code (f : Nat → Int) (h : ∀ j, j < 256 → f j = 0) : headCode f ≠ 0 := by
  intro e
  have := (okH_iff _).1 (headCode_zero e).2.2 0 (by omega)
  unfold within at this
  rw [Bool.and_eq_true, decide_eq_true_iff] at this
  have h1 := this.1
  rw [hdrF_num f 0 (by omega), ps_congr _ (fun _ => 0) 4 (fun j hj => h _ (by unfold fat; simp; omega))] at h1
  revert h1
  decide
theorem sevens_code (f : Nat → Int) (h : f 108 = 7) : headCode f ≠ 0 := by
  intro e
  have := (zeroN_iff _ _).1 (headCode_zero e).2.1 0 (by omega)
  have h2 : f (108 + 0) = 0 := this
  rw [show 108 + 0 = 108 from rfl, h] at h2
  omega
/-- Headers with other ops are other bytes. -/
theorem txt_op {f g : Nat → Int} (hf : ∀ j, j < 256 → 0 ≤ f j ∧ f j < 256) (hg : ∀ j, j < 256 → 0 ≤ g j ∧ g j < 256) (j : Nat) (hj : j < 16) (h : hdrF f j ≠ hdrF g j) : ¬ txtN 256 f = txtN 256 g :=
  fun e => h (hdrF_congr f g (txtN_inj hf hg e).2 j hj)
end Go.Proofs.YtfpgkckcifjkcaaDoor
namespace Go.Proofs.YtfpgkckcifjkcaaDoor
open Go.RowKit Go.Shelf
attribute [local go_sem] Oper.semAt_some
/-- Is a piece all noughts? -/
def pz (f : Nat → Int) (x : Nat) : Bool := decide (txtN 256 (fun j => f (x * 256 + j)) = txtN 256 (fun _ => 0))
theorem pz_iff (f : Nat → Int) (x : Nat) (hf : ∀ j, j < 256 → 0 ≤ f (x * 256 + j) ∧ f (x * 256 + j) < 256) : pz f x = true ↔ ∀ j, j < 256 → f (x * 256 + j) = 0 := by
  unfold pz
  rw [decide_eq_true_iff]
  exact ⟨fun h => (txtN_inj hf (fun j _ => ⟨by omega, by omega⟩) h).2, fun h => txtN_congr _ _ _ h⟩
theorem pz_all {c : Nat} {f : Nat → Int} (hf : ∀ j, j < c * 256 → 0 ≤ f j ∧ f j < 256) : zeroN (c * 256) f = true ↔ ∀ x, x < c → pz f x = true := by
  rw [zeroN_iff]
  refine ⟨fun h x hx => (pz_iff f x (fun j hj => hf _ (by omega))).2 (fun j hj => h _ (by omega)), fun h i hi => ?_⟩
  have := (pz_iff f (i / 256) (fun j hj => hf _ (by omega))).1 (h _ (by omega)) (i % 256) (by omega)
  rwa [show i / 256 * 256 + i % 256 = i by omega] at this
section
variable {P : Program} {F : Fence} {n : Nat} {ops : Array Oper} {rest : List Oper} {o : Oper} {a : Act} {w w' : World} {Q : Exit → Act → World → Prop}
/-- An operation in a fence, its run known. -/
theorem wpListIn_run (hg : o.guard = none) (hd : ∀ c, o.op ≠ .defer c) (ha : o.about P w a.eval = none) (v : Value) (hx : (execOp a.eval o).run P w = .ok (.value v) w') (hK : wpListIn F n P ops Q rest (a.put o.dst v) w') : wpListIn F n P ops Q (o :: rest) a w := by
  refine wpListIn_plain hg fun K hK' => ?_
  unfold Oper.wpIn
  refine ⟨fun f hf => (by rw [ha] at hf; cases hf), ?_⟩
  rw [Oper.semAt_plain F _ _ hd, hx]
  exact hK' _ _ hK
/-- A new array of numbers, in a fence. -/
theorem wpListIn_alloc_row (hg : o.guard = none) (ty : TypeId) (ho : o.op = .alloc ty) (k : IntKind) (N : Nat) (H : Nat) (hH : w.heap.size = H) (hz : (Tryd.prog.info? ty).bind (·.zero) = some (.agg (cl k N fun _ => 0).toArray))
    (hK : ∀ W, IRow W H k N (fun _ => 0) → Below H w W → W.heap.size = H + 1 → wpListIn F n Tryd.prog ops Q rest (a.put o.dst (.pointer (some ⟨H, 0, none⟩))) W) : wpListIn F n Tryd.prog ops Q (o :: rest) a w := by
  subst hH
  refine wpListIn_run hg (by rw [ho]; intro c hc; cases hc) (by simp [Oper.about, ho]) (.pointer (some ⟨w.heap.size, 0, none⟩)) (w' := w.alloc (.cells (cl k N fun _ => 0).toArray ty)) ?_ (hK _ (IRow.new w ty k N fun _ => 0) ((Below.refl _ _).alloc (Nat.le_refl _) _) (by simp))
  unfold execOp
  cases hi : Tryd.prog.info? ty with
  | none => simp [hi] at hz
  | some i =>
    have hz' : i.zero = some (.agg (cl k N fun _ => 0).toArray) := by simpa [hi] using hz
    simp only [ho]
    simp [Instr.alloc, zeroValue, typeInfo, hi, hz', newVar, newRow, Value.cells, Result.andThen]
end
/-- What holds while the pieces come. -/
def ngI {c : Nat} (W1 : World) (f : Nat → Int) (pre : List (Fin c)) (W : World) : Prop := (∀ x ∈ pre, pz f x.1 = true) ∧ Below W1.heap.size W1 W
theorem keeps_below {W W' : World} (h : Below W.heap.size W W') : KeepsOthers W W' := by
  exact ⟨h.size, fun j o hj _ => (h.block j (Array.getElem?_eq_some_iff.1 hj).1).trans hj⟩
/-- And where one of them is not noughts. -/
def ngX {c : Nat} (w : World) (f : Nat → Int) (k : Code) (_ : List (Fin c)) (W : World) : Prop := k = .ret ∧ (∃ x : Fin c, pz f x.1 = false) ∧ W.cell? ⟨w.heap.size, 0, none⟩ = some (.bool false) ∧ Below w.heap.size w W
theorem ngI_own {c : Nat} (W1 : World) (f : Nat → Int) : OwnFrom (β := List (Fin c)) W1.heap.size (ngI W1 f) := by
  intro pre X Y row hs hg hr
  exact ⟨hs.1, ownFrom_below (β := Unit) (n₀ := W1.heap.size) (B := W1.heap.size) (w₀ := W1) (Nat.le_refl _) (Nat.le_refl _) () X Y row hs.2 hg hr⟩
theorem ngX_own {c : Nat} (w : World) (B : Nat) (hB : w.heap.size ≤ B) (f : Nat → Int) (k : Code) : OwnFrom (β := List (Fin c)) B (ngX w f k) := by
  intro pre X Y row hs hg hr
  exact ⟨hs.1, hs.2.1, cell_kept hs.2.2.1 hg (fun r e => (hr r e).2), ownFrom_below (β := Unit) (n₀ := w.heap.size) (B := B) (w₀ := w) (Nat.le_refl _) hB () X Y row hs.2.2.2 hg hr⟩
set_option maxRecDepth 100000 in
set_option maxHeartbeats 400000 in
theorem noughts_c (b off c C : Nat) (f : Nat → Int) (w : World) (hL : Lies w b off (c * 256) f) (hc : c ≤ 8) (hC : c * 256 ≤ C) :
    Calls Tryd.prog 45 #[.slice (some ⟨b, off, none⟩) (c * 256) C] w fun e w' => e = .returned (.bool (zeroN (c * 256) f)) ∧ Below w.heap.size w w' := by
  refine (callsIn_wide (n := 5)).1 ?_
  have LL : Hid (Lies w b off (c * 256) f) := hL
  clear hL
  obtain ⟨z, hz⟩ : ∃ z, zeroN (c * 256) f = z := ⟨_, rfl⟩
  have HZ : Hid (zeroN (c * 256) f = z) := hz
  rw [hz]
  clear hz
  refine callsIn_of_wp_marks Tryd.func45 rfl trivial ?_ rfl
  simp only [Tryd.ntmps45, List.size_toArray, List.length_cons, List.length_nil, Nat.reduceAdd, Nat.reduceSub, Array.replicate_succ, Array.replicate_zero, List.push_toArray, List.append_toArray, List.nil_append, List.cons_append]
  gi_wp2_with (refine wpListIn_alloc_row rfl 68 rfl .u8 256 (w.heap.size + 1) (by simp) zero8_256 ?_; intro V R0 B0 z0)
  have bR : Below w.heap.size w V := ((Below.refl w.heap.size w).alloc (Nat.le_refl _) (.cells #[.bool false] 4)).trans (B0.mono (by omega))
  have cR : V.cell? ⟨w.heap.size, 0, none⟩ = some (.bool false) ∧ V.frozen? ⟨w.heap.size, 0, none⟩ = false := by
    rw [B0.cell (p := ⟨w.heap.size, 0, none⟩) (by show w.heap.size < w.heap.size + 1; omega), B0.frozen (p := ⟨w.heap.size, 0, none⟩) (by show w.heap.size < w.heap.size + 1; omega)]
    simp [go_sem]
  refine ⟨trivial, ?_⟩
  refine (chunk_in Fence.wide 4 trivial rfl _ _ _ _).mono ?_
  rintro e w' ⟨rfl, rfl⟩
  gi_wp2
  have bS : ((V.alloc (.cells #[.slice (some ⟨b, off, none⟩) (c * 256) C] 27)).alloc (.cells #[.int .i64 256] 3)).cell? ⟨V.heap.size, 0, none⟩ = some (.slice (some ⟨b, off, none⟩) (c * 256) C) := by simp [go_sem]
  have bN : ((V.alloc (.cells #[.slice (some ⟨b, off, none⟩) (c * 256) C] 27)).alloc (.cells #[.int .i64 256] 3)).cell? ⟨V.heap.size + 1, 0, none⟩ = some (.int .i64 256) := by simp [go_sem]
  have hz1 : ((V.alloc (.cells #[.slice (some ⟨b, off, none⟩) (c * 256) C] 27)).alloc (.cells #[.int .i64 256] 3)).heap.size = V.heap.size + 1 + 1 := by simp
  have hB1 : Below V.heap.size V ((V.alloc (.cells #[.slice (some ⟨b, off, none⟩) (c * 256) C] 27)).alloc (.cells #[.int .i64 256] 3)) := ((Below.refl _ _).alloc (Nat.le_refl _) _).alloc (by simp) _
  generalize ((V.alloc (.cells #[.slice (some ⟨b, off, none⟩) (c * 256) C] 27)).alloc (.cells #[.int .i64 256] 3)) = W1 at bS bN hz1 hB1 ⊢
  have SQ := chunk_stops Fence.wide 4 trivial rfl (by omega) V.heap.size (V.heap.size + 1) b off c C hc hC W1 (by omega) (by omega) bS bN
  have KB : ∀ (U : World) (l : Nat) (o o' : Obj), W1.heap.size ≤ l → U.heap[l]? = some o → o.isCells = false → o.isWalk = false → Kc V.heap.size (V.heap.size + 1) U (U.putObj l o') := fun U l o o' hl _ _ _ => ⟨World.cell?_of_block (World.putObj_heap_other (by show V.heap.size ≠ l; omega)), World.cell?_of_block (World.putObj_heap_other (by show V.heap.size + 1 ≠ l; omega))⟩
  have bW : Below w.heap.size w W1 := bR.trans (hB1.mono (by omega))
  have H0 : ngI (c := c) W1 f [] W1 := ⟨fun x hx => (by cases hx), Below.refl _ _⟩
  try rw [z0]
  rw [z0] at SQ KB bS bN hz1
  refine wpIn_rangeFunc_ownF rfl (by decide) (gf := 78) (lb := #[.pointer (some ⟨w.heap.size + 1 + 1, 0, none⟩), .pointer (some ⟨w.heap.size + 1 + 1 + 1, 0, none⟩)]) rfl trivial (enters_of Tryd.func78 (by kernel_rfl) rfl)
    SQ Kc.trans KB (Below.refl _ _) (fun _ => rfl) (ngI (c := c) W1 f) (ngX w f) (ngI_own W1 f) (fun k => ngX_own w W1.heap.size (by omega) f k) H0
    (fun x => { tmps := #[.slice (some ⟨b, off, none⟩) (c * 256) C, undef, .pointer (some ⟨w.heap.size, 0, none⟩), .pointer (some ⟨w.heap.size + 1, 0, none⟩), .slice (some ⟨b, off + x.1 * 256, none⟩) 256 256, .slice (some ⟨b, off, none⟩) (c * 256) C, .func (.func 78) #[] #[.pointer (some ⟨w.heap.size + 1 + 1, 0, none⟩), .pointer (some ⟨w.heap.size + 1 + 1 + 1, 0, none⟩)], .slice (some ⟨b, off + x.1 * 256, none⟩) 256 256, undef, undef, undef, undef, undef, undef, undef], defers := [] }) ?assign ?body ?done ?stop
  case assign =>
    intro l x U K hK
    gi_wp2
    exact hK
  case body =>
    rintro l pre x U ⟨hpre, hU⟩ hlt
    have bU : Below w.heap.size w U := bW.trans (hU.mono (by omega))
    have iU : IRow U.drew (w.heap.size + 1) .u8 256 (fun _ => 0) := ((R0.below hB1).below hU).drew
    have lU : Lies U.drew b (off + x.1 * 256) 256 (fun j => f (x.1 * 256 + j)) := (LL.out.below bU.drew).part (x.1 * 256) 256 (by have := x.2; omega)
    have cU : U.cell? ⟨w.heap.size, 0, none⟩ = some (.bool false) ∧ U.frozen? ⟨w.heap.size, 0, none⟩ = false := by
      rw [hU.cell (p := ⟨w.heap.size, 0, none⟩) (by show w.heap.size < W1.heap.size; omega), hU.frozen (p := ⟨w.heap.size, 0, none⟩) (by show w.heap.size < W1.heap.size; omega), hB1.cell (p := ⟨w.heap.size, 0, none⟩) (by show w.heap.size < V.heap.size; omega), hB1.frozen (p := ⟨w.heap.size, 0, none⟩) (by show w.heap.size < V.heap.size; omega)]
      exact cR
    have k1 := conv_arg U.drew (some ⟨b, off + x.1 * 256, none⟩) 256 256 _ (Arg.of lU)
    have k2 := conv_arg U.drew (some ⟨w.heap.size + 1, 0, none⟩) 256 256 _ (Arg.of (iU.lies (fun j _ => ⟨by omega, by omega⟩)))
    have hpz : pz f x.1 = decide (txtN 256 (fun j => f (x.1 * 256 + j)) = txtN 256 (fun _ => 0)) := rfl
    generalize txtN 256 (fun j => f (x.1 * 256 + j)) = p at k1 hpz
    generalize txtN 256 (fun _ => (0 : Int)) = q at k2 hpz
    have E0 : Hid (Below W1.heap.size W1 U.drew ∧ Below w.heap.size w U.drew ∧ KeepsOthers U U.drew) := ⟨hU.drew, bU.drew, keeps_below (Below.refl _ _).drew⟩
    have cD : U.drew.cell? ⟨w.heap.size, 0, none⟩ = some (.bool false) := cU.1
    have fD : U.drew.frozen? ⟨w.heap.size, 0, none⟩ = false := cU.2
    have HP : Hid (∀ y ∈ pre, pz f y.1 = true) := hpre
    clear hpre hU bU iU lU cU SQ KB H0 bS bN hB1 bW cR bR B0 R0
    by_cases e : p = q
    · subst e
      have hx1 : Hid (pz f x.1 = true) := (by rw [hpz]; simp : pz f x.1 = true)
      clear hpz
      gi_wp2
      refine region_in (S := fun W' => (convert 27 9 (.slice (some ⟨b, off + x.1 * 256, none⟩) 256 256)).run Tryd.prog W' = .ok (.string p) W' ∧ (convert 27 9 (.slice (some ⟨w.heap.size + 1, 0, none⟩) 256 256)).run Tryd.prog W' = .ok (.string p) W') (by kernel_rfl) (by kernel_rfl) ⟨k1, k2⟩ (fun hHeld => ?_)
      refine take_at (i := 0) (v := ?_) (some 8) rfl rfl (by kernel_rfl) (by kernel_rfl) (by kernel_rfl) (fun _ _ _ h => by cases h.1) (Or.inl ⟨by rfl, ?_⟩) (by assumption) ?_
      rotate_left
      · (intro w hSw; (try dsimp only at hSw); go_simp; try with_reducible rfl)
      simp only [Act.put, List.setIfInBounds_toArray, List.set_cons_zero, List.set_cons_succ]
      refine take_at (i := 1) (v := ?_) (some 9) rfl rfl (by kernel_rfl) (by kernel_rfl) (by kernel_rfl) (fun _ _ _ h => by cases h.1) (Or.inl ⟨by rfl, ?_⟩) (by assumption) ?_
      rotate_left
      · (intro w hSw; (try dsimp only at hSw); go_simp; try with_reducible rfl)
      simp only [Act.put, List.setIfInBounds_toArray, List.set_cons_zero, List.set_cons_succ]
      refine take_at (i := 2) (v := ?_) (some 10) rfl rfl (by kernel_rfl) (by kernel_rfl) (by kernel_rfl) (fun _ _ _ h => by cases h.1) (Or.inl ⟨by rfl, ?_⟩) (by assumption) ?_
      rotate_left
      · (intro w hSw; (try dsimp only at hSw); go_simp; try with_reducible rfl)
      simp only [Act.put, List.setIfInBounds_toArray, List.set_cons_zero, List.set_cons_succ]
      refine take_at (i := 3) (v := ?_) (some 11) rfl rfl (by kernel_rfl) (by kernel_rfl) (by kernel_rfl) (fun _ _ _ h => by cases h.1) (Or.inl ⟨by rfl, ?_⟩) (by assumption) ?_
      rotate_left
      · (intro w hSw; (try dsimp only at hSw); go_simp; try with_reducible rfl)
      simp only [Act.put, List.setIfInBounds_toArray, List.set_cons_zero, List.set_cons_succ]
      refine take_at (i := 4) (v := ?_) (some 12) rfl rfl (by kernel_rfl) (by kernel_rfl) (by kernel_rfl) (fun _ _ _ h => by cases h.1) (Or.inl ⟨by rfl, ?_⟩) (by assumption) ?_
      rotate_left
      · (intro w hSw; (try dsimp only at hSw); go_simp; try with_reducible rfl)
      simp only [Act.put, List.setIfInBounds_toArray, List.set_cons_zero, List.set_cons_succ]
      refine take_at (i := 5) (v := ?_) (some 13) rfl rfl (by kernel_rfl) (by kernel_rfl) (by kernel_rfl) (fun _ _ _ h => by cases h.1) (Or.inl ⟨by rfl, ?_⟩) (by assumption) ?_
      rotate_left
      · (intro w hSw; (try dsimp only at hSw); go_simp; try with_reducible rfl)
      simp only [Act.put, List.setIfInBounds_toArray, List.set_cons_zero, List.set_cons_succ]
      refine take_at (i := 6) (v := ?_) (some 14) rfl rfl (by kernel_rfl) (by kernel_rfl) (by kernel_rfl) (fun _ _ _ h => by cases h.1) (Or.inl ⟨by rfl, ?_⟩) (by assumption) ?_
      rotate_left
      · (intro w hSw; (try dsimp only at hSw); go_simp; try with_reducible rfl)
      simp only [Act.put, List.setIfInBounds_toArray, List.set_cons_zero, List.set_cons_succ]
      refine wpAnyH_done (by kernel_rfl) ?_ _
      refine ⟨rfl, ?_⟩
      gi_wp2
      exact ⟨E0.out.2.2, Kc.drew _ _ _, fun y hy => (List.mem_append.1 hy).elim (HP.out y) (fun h => by rw [List.mem_singleton.1 h]; exact hx1.out), E0.out.1⟩
    · have e1 : (p.toList == q.toList) = false := by rw [bytes_beq]; simpa using e
      have hx1 : Hid (pz f x.1 = false) := (by rw [hpz]; simpa using e : pz f x.1 = false)
      clear hpz
      gi_wp2
      refine region_in (S := fun W' => (convert 27 9 (.slice (some ⟨b, off + x.1 * 256, none⟩) 256 256)).run Tryd.prog W' = .ok (.string p) W' ∧ (convert 27 9 (.slice (some ⟨w.heap.size + 1, 0, none⟩) 256 256)).run Tryd.prog W' = .ok (.string q) W') (by kernel_rfl) (by kernel_rfl) ⟨k1, k2⟩ (fun hHeld => ?_)
      refine take_at (i := 0) (v := ?_) (some 8) rfl rfl (by kernel_rfl) (by kernel_rfl) (by kernel_rfl) (fun _ _ _ h => by cases h.1) (Or.inl ⟨by rfl, ?_⟩) (by assumption) ?_
      rotate_left
      · (intro w hSw; (try dsimp only at hSw); go_simp; try with_reducible rfl)
      simp only [Act.put, List.setIfInBounds_toArray, List.set_cons_zero, List.set_cons_succ]
      refine take_at (i := 1) (v := ?_) (some 9) rfl rfl (by kernel_rfl) (by kernel_rfl) (by kernel_rfl) (fun _ _ _ h => by cases h.1) (Or.inl ⟨by rfl, ?_⟩) (by assumption) ?_
      rotate_left
      · (intro w hSw; (try dsimp only at hSw); go_simp; try with_reducible rfl)
      simp only [Act.put, List.setIfInBounds_toArray, List.set_cons_zero, List.set_cons_succ]
      refine take_at (i := 2) (v := ?_) (some 10) rfl rfl (by kernel_rfl) (by kernel_rfl) (by kernel_rfl) (fun _ _ _ h => by cases h.1) (Or.inl ⟨by rfl, ?_⟩) (by assumption) ?_
      rotate_left
      · (intro w hSw; (try dsimp only at hSw); go_simp; try with_reducible rfl)
      simp only [Act.put, List.setIfInBounds_toArray, List.set_cons_zero, List.set_cons_succ]
      refine take_at (i := 3) (v := ?_) (some 11) rfl rfl (by kernel_rfl) (by kernel_rfl) (by kernel_rfl) (fun _ _ _ h => by cases h.1) (Or.inl ⟨by rfl, ?_⟩) (by assumption) ?_
      rotate_left
      · (intro w hSw; (try dsimp only at hSw); go_simp; try with_reducible rfl)
      simp only [Act.put, List.setIfInBounds_toArray, List.set_cons_zero, List.set_cons_succ]
      refine take_at (i := 4) (v := ?_) (some 12) rfl rfl (by kernel_rfl) (by kernel_rfl) (by kernel_rfl) (fun _ _ _ h => by cases h.1) (Or.inl ⟨by rfl, ?_⟩) (by assumption) ?_
      rotate_left
      · (intro w hSw; (try dsimp only at hSw); go_simp; try with_reducible rfl)
      simp only [Act.put, List.setIfInBounds_toArray, List.set_cons_zero, List.set_cons_succ]
      refine take_at (i := 5) (v := ?_) (some 13) rfl rfl (by kernel_rfl) (by kernel_rfl) (by kernel_rfl) (fun _ _ _ h => by cases h.1) (Or.inl ⟨by rfl, ?_⟩) (by assumption) ?_
      rotate_left
      · (intro w hSw; (try dsimp only at hSw); go_simp; try with_reducible rfl)
      simp only [Act.put, List.setIfInBounds_toArray, List.set_cons_zero, List.set_cons_succ]
      refine take_at (i := 6) (v := ?_) (some 14) rfl rfl (by kernel_rfl) (by kernel_rfl) (by kernel_rfl) (fun _ _ _ h => by cases h.1) (Or.inl ⟨by rfl, ?_⟩) (by assumption) ?_
      rotate_left
      · (intro w hSw; (try dsimp only at hSw); go_simp; try with_reducible rfl)
      simp only [Act.put, List.setIfInBounds_toArray, List.set_cons_zero, List.set_cons_succ]
      refine wpAnyH_done (by kernel_rfl) ?_ _
      refine ⟨rfl, ?_⟩
      gi_wp2
      exact ⟨E0.out.2.2.trans (KeepsOthers.setCell _ _ _), rfl, ⟨x, hx1.out⟩, World.cell?_setCell_same' _ _ _ (by show (U.drew.cell? _).isSome = true; rw [cD]; rfl), E0.out.2.1.setCell (Nat.le_refl _) _⟩
  case done =>
    rintro D ys U hD rfl ⟨hall, hU⟩ hK
    have bU : Below w.heap.size w U := bW.trans (hU.mono (by omega))
    have cU : U.cell? ⟨w.heap.size, 0, none⟩ = some (.bool false) ∧ U.frozen? ⟨w.heap.size, 0, none⟩ = false := by
      rw [hU.cell (p := ⟨w.heap.size, 0, none⟩) (by show w.heap.size < W1.heap.size; omega), hU.frozen (p := ⟨w.heap.size, 0, none⟩) (by show w.heap.size < W1.heap.size; omega), hB1.cell (p := ⟨w.heap.size, 0, none⟩) (by show w.heap.size < V.heap.size; omega), hB1.frozen (p := ⟨w.heap.size, 0, none⟩) (by show w.heap.size < V.heap.size; omega)]
      exact cR
    obtain ⟨c1, c2⟩ := cU
    have hz : z = true := by
      rw [← HZ.out]
      refine (pz_all LL.out.2.1).2 (fun x hx => hall ⟨x, hx⟩ ?_)
      unfold upTo
      rw [List.take_of_length_le (by simp)]
      exact List.mem_finRange _
    subst hz
    have bZ : Below w.heap.size w (U.setCell ⟨w.heap.size, 0, none⟩ (.bool true)) := bU.setCell (Nat.le_refl _) _
    have cZ : (U.setCell ⟨w.heap.size, 0, none⟩ (.bool true)).cell? ⟨w.heap.size, 0, none⟩ = some (.bool true) := World.cell?_setCell_same' _ _ _ (by rw [c1]; rfl)
    have hK' : (U.setCell ⟨w.heap.size, 0, none⟩ (.bool true)).heap[D]? = some (.deferred (some [])) := (Below.heap_setCell U ⟨w.heap.size, 0, none⟩ _ D (by show D ≠ w.heap.size; omega)).trans hK
    clear SQ KB H0 bS bN hall hU
    gi_wp2
    generalize U.setCell ⟨w.heap.size, 0, none⟩ (.bool true) = Y at bZ cZ hK' ⊢
    have cX : (Y.putObj D (.deferred none)).cell? ⟨w.heap.size, 0, none⟩ = some (.bool true) := (World.cell?_of_block (World.putObj_heap_other (by show w.heap.size ≠ D; omega))).trans cZ
    refine ⟨by simp, .inl ⟨_, _, rfl, run_takeDeferred hK', ?_⟩⟩
    refine ⟨.bool true, by simp [results, Tryd.results45, asAddr, loadVar, go_sem, cX], rfl, ?_⟩
    exact bZ.trans (belowK_b (w := w) (Nat.le_refl _) Y D _ _ (by omega) hK' rfl rfl)
  case stop =>
    rintro D k pre U hD _ ⟨rfl, ⟨x, hx⟩, cU, bU⟩ hK
    have hz : z = false := by
      rw [← HZ.out, ← Bool.not_eq_true, pz_all LL.out.2.1]
      intro h
      rw [h x.1 x.2] at hx
      cases hx
    subst hz
    clear SQ KB H0 bS bN
    gi_wp2
    have cX : (U.putObj D (.deferred none)).cell? ⟨w.heap.size, 0, none⟩ = some (.bool false) := (World.cell?_of_block (World.putObj_heap_other (by show w.heap.size ≠ D; omega))).trans cU
    refine ⟨by simp, .inl ⟨_, _, rfl, run_takeDeferred hK, ?_⟩⟩
    refine ⟨.bool false, by simp [results, Tryd.results45, asAddr, loadVar, go_sem, cX], rfl, ?_⟩
    exact bU.trans (belowK_b (w := w) (Nat.le_refl _) U D _ _ (by omega) hK rfl rfl)
end Go.Proofs.YtfpgkckcifjkcaaDoor
namespace Go.Proofs.YtfpgkckcifjkcaaDoor
open Go.RowKit
/-- The header of a prepare. -/
def pvH (op vw : Int) (j : Nat) : Int := if j = 0 then 2 else if j = 5 then op else if j = 3 then vw else 0
theorem pv_words (op vw : Int) : Words (pvH op vw) := ⟨by unfold Word pvH; simp, by unfold Word pvH; simp, by unfold Word pvH; simp⟩
theorem pv_size (op vw : Int) (j : Nat) : upd (pvH op vw) 2 ((0 : Nat) : Int) j = pvH op vw j := by
  unfold upd
  by_cases e : j = 2
  · subst e; rfl
  · rw [if_neg e]
theorem pv_ok (op vw : Int) (h0 : 0 ≤ op) (h1 : op ≤ 1073741824) (v0 : 0 ≤ vw) (v1 : vw ≤ 1073741824) : okH (upd (pvH op vw) 2 ((0 : Nat) : Int)) = true := by
  rw [okH_iff]
  intro k hk
  unfold within
  rw [Bool.and_eq_true, decide_eq_true_iff, decide_eq_true_iff, pv_size]
  match k, hk with
  | 0, _ | 1, _ | 2, _ | 4, _ | 6, _ | 7, _ | 8, _ | 9, _ | 10, _ | 11, _ | 12, _ => exact ⟨by simp [pvH, pos, fle], by simp [pvH, pos, fmo]⟩
  | 3, _ => exact ⟨v0, v1⟩
  | 5, _ => exact ⟨h0, h1⟩
  | k + 13, hk => omega
/-- The slot's bytes of such a prepare. -/
def pvF (op vw : Int) : Nat → Int := slotF (pvH op vw) 0 (fun _ => 0)
theorem pvF_byte (op vw : Int) (j : Nat) : 0 ≤ pvF op vw j ∧ pvF op vw j < 256 := slotF_byte _ 0 _ (fun j h => by omega) j
set_option maxRecDepth 100000 in
set_option maxHeartbeats 400000 in
theorem prepare_ok (op vw : Int) (w : World) (hT : Tab w) (hok : okH (upd (pvH op vw) 2 ((0 : Nat) : Int)) = true) (hp : isPrep (pvH op vw) (ofI (pvH op vw 5)) = true) :
    Calls Tryd.prog 24 #[.int .i64 op, .int .i64 vw] w fun e w' => ∃ g, e = .returned (.tuple #[.agg (msg (pvH op vw) none 0 0).toArray, .slice (some ⟨g, 0, none⟩) 1280 1280, .bool true]) ∧ w.heap.size ≤ g ∧ IRow w' g .u8 1280 (pvF op vw) ∧ Below w.heap.size w w' := by
  have hT0 := hT.2
  have TT : Hid (Tab w) := hT
  have HK : Hid (okH (upd (pvH op vw) 2 ((0 : Nat) : Int)) = true) := hok
  have HP : Hid (isPrep (pvH op vw) (ofI (pvH op vw 5)) = true) := hp
  clear hT hok hp
  have T0 : Hid True := trivial
  go_enter Tryd.func24, Tryd.ntmps24
  go_wp2_with (first
    | (have _q := T0; clear _q; refine wpList_alloc_rec rfl 29 rfl (msg (fun _ => 0) none 0 0) w.heap.size rfl zeroMsg ?_; intro W1 R1 B1 z1; clear T0)
    | (have _q := R1; clear _q; refine wpList_build_to rfl 26 _ rfl (hcs (pvH op vw)).toArray (by kernel_rfl) ?_)
    | (have _q := R1; clear _q; refine wpList_build_to rfl 29 _ rfl (msg (pvH op vw) none 0 0).toArray (by kernel_rfl) ?_)
    | (have _q := R1; clear _q; refine wpList_alloc_rec rfl 29 rfl (msg (fun _ => 0) none 0 0) (w.heap.size + 1) z1 zeroMsg ?_; intro W2 R2 B2 z2)
    | (have _q := R1; clear _q; refine wpList_store_rec rfl 29 (.tmp 7) (.tmp 13) rfl (w.heap.size + 1) 0 _ (msg (pvH op vw) none 0 0) rfl rfl R2 rfl (by kernel_rfl) (msg_one _ _ _ _) ?_; intro W3 R3 B3
       have F3 : Below (w.heap.size + 1) W1 W3 := B2.trans (B3.below (by omega) (by omega))
       have E3 : Hid (Below w.heap.size w W3) := B1.trans (F3.mono (by omega))
       have S3 : Hid (Rec19 W3 w.heap.size 0 (msg (fun _ => 0) none 0 0)) := R1.below (by rw [z1]; exact F3)
       have M3 : Hid (Rec19 W3 (w.heap.size + 1) 0 (msg (pvH op vw) none 0 0)) := R3
       clear F3 R3 B3 R2 B2 z2 R1 B1 z1)
    | (have _q := S3; clear _q; refine wpList_load_rec rfl 29 (.tmp 7) rfl (w.heap.size + 1) 0 (msg (pvH op vw) none 0 0) rfl _ Tryd.underlying29 rfl (by kernel_rfl) M3.out ?_)
    | (have _q := S3; clear _q; go_at_call 9; refine (sbytes_ok (pvH op vw) none 0 0 (fun _ => 0) _ (by omega) (TT.out.below E3.out hT0) (.inl ⟨rfl, .inl rfl⟩) (Nat.le_refl _) (pv_words op vw) HK.out HP.out).mono ?_; rintro e W4 ⟨g, rfl, hg, hR4, hB4⟩
       have S4 : Hid (Rec19 W4 w.heap.size 0 (msg (fun _ => 0) none 0 0)) := S3.out.below hB4
       have M4 : Hid (Rec19 W4 (w.heap.size + 1) 0 (msg (pvH op vw) none 0 0)) := M3.out.below hB4
       have G4 : Hid (IRow W4 g .u8 1280 (pvF op vw)) := hR4
       have E4 : Hid (Below w.heap.size w W4) := E3.out.trans (hB4.mono E3.out.size)
       have N4 : Hid (w.heap.size + 1 < g) := Nat.lt_of_lt_of_le M3.out.2.2 hg
       clear hR4 hB4 hg S3 M3 E3)
    | (have _q := S4; clear _q; refine wpList_load_rec rfl 29 (.tmp 7) rfl (w.heap.size + 1) 0 (msg (pvH op vw) none 0 0) rfl _ Tryd.underlying29 rfl (by kernel_rfl) M4.out ?_)
    | (have _q := S4; clear _q; refine wpList_store_rec rfl 29 (.tmp 4) (.tmp 19) rfl w.heap.size 0 _ (msg (pvH op vw) none 0 0) rfl rfl S4.out rfl (by kernel_rfl) (msg_one _ _ _ _) ?_; intro W6 R6 B6))
  have hl := R6.run_load 29 _ Tryd.underlying29 rfl (by kernel_rfl)
  have n4 := N4.out
  refine bodyPost_ret (v := .tuple #[.agg (msg (pvH op vw) none 0 0).toArray, .slice (some ⟨g, 0, none⟩) 1280 1280, .bool true]) (by simp [results, Tryd.results24, asAddr, hl]) rfl ⟨g, rfl, by omega, G4.out.but B6 (by omega), E4.out.trans (B6.below (Nat.le_refl _) E4.out.size)⟩
theorem eql_ss (a b c : Int) (d : Bool) (w : World) : (binOp .eql 45 (.agg (ss a b c d).toArray) (.agg (ss a b c d).toArray)).run Tryd.prog w = .ok (.bool true) w := by
  simp [go_sem, ss]
theorem guard_ss : Tryd.prog.eqGuardType Tryd.prog.depth 45 = false := by kernel_rfl
set_option maxRecDepth 100000 in
set_option maxHeartbeats 400000 in
theorem is_true (a b c : Int) (d : Bool) (w : World) : Calls Tryd.prog 25 #[.agg (ss a b c d).toArray, .int .i64 a, .int .i64 b, .int .i64 c, .bool d] w fun e w' => e = .returned (.bool true) ∧ Below w.heap.size w w' := by
  have T0 : Hid True := trivial
  go_enter Tryd.func25, Tryd.ntmps25
  go_wp2_with (first
    | (have _q := T0; clear _q; refine wpList_box_rec rfl 45 (.tmp 0) rfl (ss a b c d) rfl w.heap.size rfl ?_; intro W0 R0 B0 z0; clear T0)
    | (have _q := R0; clear _q; refine wpList_load_rec rfl 45 (.tmp 5) rfl w.heap.size 0 (ss a b c d) rfl _ Tryd.underlying45 rfl (by kernel_rfl) R0 ?_)
    | (have _q := R0; clear _q; refine wpList_build_to rfl 45 _ rfl (ss a b c d).toArray (by kernel_rfl) ?_)
    | (have _q := R0; clear _q; refine wpList_eql_w (by rfl) 45 45 (.tmp 11) (.tmp 16) rfl (ss a b c d).toArray rfl rfl (eql_ss a b c d) guard_ss ?_))
  go_ret
  exact ⟨rfl, B0⟩
end Go.Proofs.YtfpgkckcifjkcaaDoor
namespace Go.Proofs.YtfpgkckcifjkcaaDoor
open Go.RowKit
theorem IRow.front {W : World} {g N : Nat} {f : Nat → Int} (h : IRow W g .u8 N f) (hf : ∀ j, 0 ≤ f j ∧ f j < 256) (n : Nat) (hn : n ≤ N) : Arg W (some ⟨g, 0, none⟩) n f :=
  Arg.of ((h.lies (fun j _ => hf j)).part 0 n (by omega)).zero
theorem ng_row (g : Nat) (f : Nat → Int) : NgOk (some ⟨g, 0, none⟩) 1280 1280 f := fun W hA => by
  rcases hA with ⟨h, _⟩ | ⟨_, b, off, hb, hl⟩
  · omega
  injection hb with hb
  injection hb with h1 h2
  subst h1 h2
  exact noughts_c _ _ 5 1280 f W hl (by omega) (by omega)
/-- Judge of a header's and a prepare's bytes. -/
theorem judge_row (g g' : Nat) (C : Nat) (f f' : Nat → Int) (k : Int) (L : List Value) (w : World) (hT : Tab w) (hA : Arg w (some ⟨g, 0, none⟩) 256 f) (hA' : Arg w (some ⟨g', 0, none⟩) 1280 f') (hC : 256 ≤ C) (hL : judgeL 256 f 1280 f' k = L) :
    Calls Tryd.prog 22 #[.slice (some ⟨g, 0, none⟩) 256 C, .slice (some ⟨g', 0, none⟩) 1280 1280, .int .i64 k] w fun e w' => e = .returned (.agg L.toArray) ∧ Below w.heap.size w w' := by
  subst hL
  exact judge_any _ _ 256 C 1280 1280 f f' k w hT hA hA' hC (Nat.le_refl _) (by omega) (ng_row g' f')
theorem pv_whole (op vw k : Int) (hok : okH (upd (pvH op vw) 2 ((0 : Nat) : Int)) = true) (hp : isPrep (pvH op vw) k = true) :
    prepOK 1280 (pvF op vw) k = true ∧ (∀ j, j < 16 → hdrF (pvF op vw) j = pvH op vw j) ∧ headCode (pvF op vw) = 0 := by
  obtain ⟨a, b, c⟩ := slot_whole (pvH op vw) (fun _ => 0) 0 1280 k (by omega) hok (pv_words op vw) hp (pvF op vw) (fun j hj => by unfold pvF slotF; rw [if_pos hj])
  exact ⟨a, fun j hj => (b j hj).trans (pv_size op vw j), c⟩
theorem ok17 : okH (upd (pvH 17 2) 2 ((0 : Nat) : Int)) = true := pv_ok 17 2 (by omega) (by omega) (by omega) (by omega)
theorem ok1 : okH (upd (pvH 1 0) 2 ((0 : Nat) : Int)) = true := pv_ok 1 0 (by omega) (by omega) (by omega) (by omega)
theorem p17 : isPrep (pvH 17 2) 1 = true := by decide
theorem p1 : isPrep (pvH 1 0) 1 = true := by decide
theorem w17 : prepOK 1280 (pvF 17 2) 1 = true ∧ (∀ j, j < 16 → hdrF (pvF 17 2) j = pvH 17 2 j) ∧ headCode (pvF 17 2) = 0 := pv_whole 17 2 1 ok17 p17
theorem w1 : prepOK 1280 (pvF 1 0) 1 = true ∧ (∀ j, j < 16 → hdrF (pvF 1 0) j = pvH 1 0 j) ∧ headCode (pvF 1 0) = 0 := pv_whole 1 0 1 ok1 p1
theorem h17 : fhK 256 (pvF 17 2) 1 = 2 := head_whole rfl w17.2.2 (by rw [isPrep_congr _ _ 1 w17.2.1]; exact p17)
theorem h1 : fhK 256 (pvF 1 0) 1 = 2 := head_whole rfl w1.2.2 (by rw [isPrep_congr _ _ 1 w1.2.1]; exact p1)
theorem o17 : hdrF (pvF 17 2) 5 = 17 ∧ hdrF (pvF 17 2) 3 = 2 := ⟨w17.2.1 5 (by omega), w17.2.1 3 (by omega)⟩
theorem o1 : hdrF (pvF 1 0) 5 = 1 ∧ hdrF (pvF 1 0) 3 = 0 := ⟨w1.2.1 5 (by omega), w1.2.1 3 (by omega)⟩
theorem pv_other : ¬ txtN 256 (pvF 1 0) = txtN 256 (pvF 17 2) := txt_op (fun j _ => pvF_byte _ _ j) (fun j _ => pvF_byte _ _ j) 5 (by omega) (by rw [o17.1, o1.1]; omega)
theorem sl1 : ¬ isSl 1 = false := by decide
theorem jd1 : judgeL 256 (pvF 17 2) 1280 (pvF 17 2) 1 = ss 1 17 2 false := by
  unfold judgeL
  rw [if_neg sl1, if_pos w17.1, if_pos h17, if_pos rfl, o17.1, o17.2]
theorem jd2 : judgeL 256 (pvF 1 0) 1280 (pvF 17 2) 1 = ss 1 17 2 true := by
  unfold judgeL
  rw [if_neg sl1, if_pos w17.1, if_pos h1, if_neg pv_other, o17.1, o17.2, o1.1, o1.2, if_pos (by decide)]
theorem jd3 : judgeL 256 (pvF 17 2) 1280 (pvF 1 0) 1 = ss 3 17 2 false := by
  unfold judgeL
  rw [if_neg sl1, if_pos w1.1, if_pos h17, if_neg (fun e => pv_other e.symm), o17.1, o17.2, o1.1, o1.2, if_neg (by decide)]
/-- What stays in awake. -/
def aS (w : World) (p q : Nat) (W : World) : Prop := IRow W p .u8 1280 (pvF 17 2) ∧ IRow W q .u8 1280 (pvF 1 0) ∧ Tab W ∧ Below w.heap.size w W
theorem aS.below {w : World} {p q : Nat} {W W' : World} (s : aS w p q W) (hB : Below W.heap.size W W') : aS w p q W' :=
  ⟨s.1.below hB, s.2.1.below hB, s.2.2.1.below hB s.2.2.1.2, s.2.2.2.trans (hB.mono s.2.2.2.size)⟩
set_option maxRecDepth 100000 in
set_option maxHeartbeats 1000000 in
theorem awake_ok (w : World) (hT : Tab w) : Calls Tryd.prog 18 #[] w fun e w' => e = .returned (.bool true) ∧ Below w.heap.size w w' := by
  have hT0 := hT.2
  have TT : Hid (Tab w) := hT
  clear hT
  have T0 : Hid True := trivial
  go_enter Tryd.func18, Tryd.ntmps18
  go_wp2_with (first
    | (have _q := T0; clear _q; go_at_call 24; refine (prepare_ok 17 2 _ TT.out ok17 (by decide)).mono ?_; rintro e W1 ⟨p, rfl, hp, hR1, hB1⟩
       have P1 : Hid (IRow W1 p .u8 1280 (pvF 17 2)) := hR1
       have B1 : Hid (Below w.heap.size w W1) := hB1
       clear T0 hR1 hB1 hp)
    | (have _q := B1; clear _q; refine wpList_alloc_rec rfl 29 rfl (msg (fun _ => 0) none 0 0) W1.heap.size rfl zeroMsg ?_; intro W2 R2 B2 z2)
    | (have _q := B1; clear _q; refine wpList_store_rec rfl 29 (.tmp 1) (.tmp 9) rfl W1.heap.size 0 _ (msg (pvH 17 2) none 0 0) rfl rfl R2 rfl (by kernel_rfl) (msg_one _ _ _ _) ?_; intro W3 R3 B3
       have F3 : Below W1.heap.size W1 W3 := B2.trans (B3.below (Nat.le_refl _) (by omega))
       have P3 : Hid (IRow W3 p .u8 1280 (pvF 17 2)) := P1.out.below F3
       have E3 : Hid (Below w.heap.size w W3) := B1.out.trans (F3.mono B1.out.size)
       clear F3 R3 B3 R2 B2 z2 P1 B1)
    | (have _q := P3; clear _q; go_at_call 24; refine (prepare_ok 1 0 _ (TT.out.below E3.out hT0) ok1 (by decide)).mono ?_; rintro e W4 ⟨q, rfl, hq, hR4, hB4⟩
       have P4 : Hid (aS w p q W4) := ⟨P3.out.below hB4, hR4, TT.out.below (E3.out.trans (hB4.mono E3.out.size)) hT0, E3.out.trans (hB4.mono E3.out.size)⟩
       clear hR4 hB4 hq P3 E3)
    | (have _q := P4; clear _q; refine wpList_alloc_rec rfl 29 rfl (msg (fun _ => 0) none 0 0) W4.heap.size rfl zeroMsg ?_; intro W5 R5 B5 z5)
    | (have _q := P4; clear _q; refine wpList_store_rec rfl 29 (.tmp 4) (.tmp 14) rfl W4.heap.size 0 _ (msg (pvH 1 0) none 0 0) rfl rfl R5 rfl (by kernel_rfl) (msg_one _ _ _ _) ?_; intro W6 R6 B6
       have F6 : Below W4.heap.size W4 W6 := B5.trans (B6.below (Nat.le_refl _) (by omega))
       have P6 : Hid (aS w p q W6) := P4.out.below F6
       clear F6 R6 B6 R5 B5 z5 P4)
    | (have _q := P6; clear _q; go_at_call 14; refine (of_any 17 _).mono ?_; rintro e w3 ⟨rfl, rfl⟩; rw [show ofI 17 = 1 from rfl])
    | (have _q := P6; clear _q; go_at_call 22; refine (judge_row p p 1280 _ _ 1 _ _ P6.out.2.2.1 (P6.out.1.front (pvF_byte _ _) 256 (by omega)) (P6.out.1.front (pvF_byte _ _) 1280 (by omega)) (by omega) jd1).mono ?_; rintro e W7 ⟨rfl, hB⟩
       have P7 : Hid (aS w p q W7) := P6.out.below hB
       clear hB P6)
    | (have _q := P7; clear _q; go_at_call 25; refine (is_true 1 17 2 false _).mono ?_; rintro e W8 ⟨rfl, hB⟩
       have P8 : Hid (aS w p q W8) := P7.out.below hB
       clear hB P7)
    | (have _q := P8; clear _q; go_at_call 22; refine (judge_row q p 1280 _ _ 1 _ _ P8.out.2.2.1 (P8.out.2.1.front (pvF_byte _ _) 256 (by omega)) (P8.out.1.front (pvF_byte _ _) 1280 (by omega)) (by omega) jd2).mono ?_; rintro e W9 ⟨rfl, hB⟩
       have P9 : Hid (aS w p q W9) := P8.out.below hB
       clear hB P8)
    | (have _q := P9; clear _q; go_at_call 25; refine (is_true 1 17 2 true _).mono ?_; rintro e V1 ⟨rfl, hB⟩
       have Q1 : Hid (aS w p q V1) := P9.out.below hB
       clear hB P9)
    | (have _q := Q1; clear _q; go_at_call 22; refine (judge_row p q 1280 _ _ 1 _ _ Q1.out.2.2.1 (Q1.out.1.front (pvF_byte _ _) 256 (by omega)) (Q1.out.2.1.front (pvF_byte _ _) 1280 (by omega)) (by omega) jd3).mono ?_; rintro e V2 ⟨rfl, hB⟩
       have Q2 : Hid (aS w p q V2) := Q1.out.below hB
       clear hB Q1)
    | (have _q := Q2; clear _q; go_at_call 25; refine (is_true 3 17 2 false _).mono ?_; rintro e V3 ⟨rfl, hB⟩
       have Q3 : Hid (aS w p q V3) := Q2.out.below hB
       clear hB Q2))
  go_ret
  exact ⟨rfl, Q3.out.2.2.2⟩
end Go.Proofs.YtfpgkckcifjkcaaDoor
namespace Go.Proofs.YtfpgkckcifjkcaaDoor
open Go.RowKit
theorem rofs_any (x : Int) (w : World) : Calls Tryd.prog 15 #[.int .i64 x] w fun e w' => e = .returned (.int .i64 (ofI x)) ∧ w' = w := by
  by_cases h : x < 0
  · have e : ofI x = 0 := if_pos h
    rw [e]
    go_enter Tryd.func15, Tryd.ntmps15
    go_wp2
    go_ret
    exact ⟨rfl, rfl⟩
  · have e : ofI x = x % 16 := if_neg h
    rw [e]
    go_enter Tryd.func15, Tryd.ntmps15
    go_wp2
    go_ret
    exact ⟨rfl, rfl⟩
set_option maxRecDepth 100000 in
theorem mine_any (h : Nat → Int) (n : Int) (w : World) : Calls Tryd.prog 34 #[.agg (hcs h).toArray, .int .i64 n] w fun e w' => e = .returned (.bool (isPrep h n)) ∧ Below w.heap.size w w' := by
  by_cases e0 : h 0 = 2
  · by_cases e1 : 1 ≤ h 5
    · by_cases e2 : ofI (h 5) = n
      · rw [show isPrep h n = true from by simp [isPrep, e0, e1, e2]]
        subst e2
        go_enter Tryd.func34, Tryd.ntmps34
        go_wp2_with (first
          | (refine wpList_box_rec rfl 26 (.tmp 0) rfl (hcs h) rfl w.heap.size rfl ?_; intro W0 R0 B0 z0; obtain ⟨c0, _⟩ := R0.at 0 (.int .i64 (h 0)) rfl; obtain ⟨c5, _⟩ := R0.at 5 (.int .i64 (h 5)) rfl)
          | (go_at_call 15; refine (rofs_any (h 5) _).mono ?_; rintro e w3 ⟨rfl, rfl⟩))
        go_ret
        exact ⟨rfl, B0⟩
      · rw [show isPrep h n = false from by simp [isPrep, e0, e1, e2]]
        go_enter Tryd.func34, Tryd.ntmps34
        go_wp2_with (first
          | (refine wpList_box_rec rfl 26 (.tmp 0) rfl (hcs h) rfl w.heap.size rfl ?_; intro W0 R0 B0 z0; obtain ⟨c0, _⟩ := R0.at 0 (.int .i64 (h 0)) rfl; obtain ⟨c5, _⟩ := R0.at 5 (.int .i64 (h 5)) rfl)
          | (go_at_call 15; refine (rofs_any (h 5) _).mono ?_; rintro e w3 ⟨rfl, rfl⟩))
        go_ret
        refine ⟨?_, B0⟩
        rw [show (ofI (h 5) == n) = false from by simpa using e2]
        rfl
    · rw [show isPrep h n = false from by simp [isPrep, e0, e1]]
      go_enter Tryd.func34, Tryd.ntmps34
      go_wp2_with (first
        | (refine wpList_box_rec rfl 26 (.tmp 0) rfl (hcs h) rfl w.heap.size rfl ?_; intro W0 R0 B0 z0; obtain ⟨c0, _⟩ := R0.at 0 (.int .i64 (h 0)) rfl; obtain ⟨c5, _⟩ := R0.at 5 (.int .i64 (h 5)) rfl))
      go_ret
      exact ⟨rfl, B0⟩
  · rw [show isPrep h n = false from by simp [isPrep, e0]]
    go_enter Tryd.func34, Tryd.ntmps34
    go_wp2_with (first
      | (refine wpList_box_rec rfl 26 (.tmp 0) rfl (hcs h) rfl w.heap.size rfl ?_; intro W0 R0 B0 z0; obtain ⟨c0, _⟩ := R0.at 0 (.int .i64 (h 0)) rfl; obtain ⟨c5, _⟩ := R0.at 5 (.int .i64 (h 5)) rfl))
    go_ret
    exact ⟨rfl, B0⟩
set_option maxRecDepth 100000 in
theorem zeros_none (ty : TypeId) (W : World) (base n g cap : Nat) (F : Nat → Int) (ho : Own W base (.slice (some ⟨g, 0, none⟩) n cap) n F) :
    (Builtin.append_ #[27, 3] ty #[.slice (some ⟨g, 0, none⟩) n cap, .int .i64 ((0 : Nat) : Int)]).run Tryd.prog W = .ok (.slice (some ⟨g, 0, none⟩) n cap) W := by
  obtain ⟨i0, hi, hz0, _, hz2⟩ := info_parts info_u8
  rcases ho.2 with ⟨h, _⟩ | ⟨g', cap', cur, hv, hbg, hg, hnc, hcm, hcs, htake⟩
  · cases h
  injection hv with hv _ hc
  subst hc
  have hw : IntKind.i64.wrap 0 = 0 := by rw [IntKind.wrap_i64]; rfl
  simp [Builtin.append_, run_underlying Tryd.underlying27, run_underlying Tryd.underlying3, sizeOf, typeInfo, zeroValue, hi, hz0, hz2, asInt, asIntOf, hw, hnc, storeCells]
/-- Noughts behind bytes of one's own, none of them too. -/
theorem zeros_any (W : World) (base n m g cap : Nat) (F : Nat → Int) (ho : Own W base (.slice (some ⟨g, 0, none⟩) n cap) n F) (hm : n + m ≤ 1000000) (hbase : base ≤ W.heap.size) (hg : base ≤ g) (z : Int) (hz : z = (m : Int)) :
    ∃ g' cap' W', (∀ ty, (Builtin.append_ #[27, 3] ty #[.slice (some ⟨g, 0, none⟩) n cap, .int .i64 z]).run Tryd.prog W = .ok (.slice (some ⟨g', 0, none⟩) (n + m) cap') W') ∧ Own W' base (.slice (some ⟨g', 0, none⟩) (n + m) cap') (n + m) (cat F n (fun _ => 0)) ∧ Below base W W' := by
  subst hz
  by_cases e : m = 0
  · subst e
    refine ⟨g, cap, W, fun ty => zeros_none ty W base n g cap F ho, Own.congr ho ?_, Below.refl _ _⟩
    intro j hj
    unfold cat
    rw [if_pos (by omega)]
  · obtain ⟨v', W', hr, g', cap', rfl, _, hO, hB⟩ := zeros_but 27 W base n m g cap F ho (by omega) hm hbase
    refine ⟨g', cap', W', fun ty => hr, hO, hB.below hg hbase⟩
theorem own_base {w : World} {base g n cap : Nat} {F : Nat → Int} (h : Own w base (.slice (some ⟨g, 0, none⟩) n cap) n F) (hn : 0 < n) : base ≤ g := by
  rcases h.2 with ⟨_, h0⟩ | ⟨g', cap', cur, hv, hbg, _⟩
  · omega
  · injection hv with hv
    injection hv with hv
    injection hv with hv
    omega
theorem own_below2 {w w' : World} {base n : Nat} {v : Value} {F : Nat → Int} (h : Own w base v n F) (hB : Below w.heap.size w w') : Own w' base v n F := by
  refine ⟨h.1, ?_⟩
  rcases h.2 with h0 | ⟨g, cap, cur, hv, hbg, hg, rest⟩
  · exact .inl h0
  · exact .inr ⟨g, cap, cur, hv, hbg, (hB.block g (Array.getElem?_eq_some_iff.1 hg).1).trans hg, rest⟩
theorem cat_slot (h : Nat → Int) (n : Nat) (f : Nat → Int) (j : Nat) : cat (msgF (upd h 2 (n : Nat)) n f) (256 + n) (fun _ => 0) j = slotF h n f j := by
  unfold cat slotF
  rfl
theorem wr_ar (n : Nat) (hn : n ≤ 1024) : wrap64 (1280 - (256 + (n : Int))) = 1280 - (256 + (n : Int)) ∧ IntKind.i64.wrap (1280 - (256 + (n : Int))) = 1280 - (256 + (n : Int)) ∧ 1280 - (256 + (n : Int)) = ((1024 - n : Nat) : Int) ∧ 256 + n + (1024 - n) = 1280 := by
  refine ⟨?_, ?_, by omega, by omega⟩
  · unfold wrap64; omega
  · rw [IntKind.wrap_i64]; omega
set_option maxRecDepth 100000 in
set_option maxHeartbeats 400000 in
theorem rbytes_long (h : Nat → Int) (a : Option Addr) (n C : Nat) (w : World) (hn : 1024 < n) :
    Calls Tryd.prog 10 #[.agg (msg h a n C).toArray] w fun e w' => e = .returned (.tuple #[.slice none 0 0, .int .i64 3]) ∧ Below w.heap.size w w' := by
  go_enter Tryd.func10, Tryd.ntmps10
  go_wp2_with (first
    | (refine wpList_box_rec rfl 29 (.tmp 0) rfl (msg h a n C) rfl w.heap.size rfl ?_; intro W0 R0 B0 z0
       have RH : Hid (Rec19 W0 w.heap.size 0 (msg h a n C)) := R0
       have BH : Hid (Below w.heap.size w W0) := B0
       clear R0 B0)
    | (refine wpList_load_rec rfl 29 (.tmp 1) rfl w.heap.size 0 (msg h a n C) rfl _ Tryd.underlying29 rfl (by kernel_rfl) RH.out ?_)
    | (go_at_call 33; refine (nseal_long h a n C _ hn).mono ?_; rintro e W1 ⟨rfl, B1⟩))
  go_ret2
  exact ⟨rfl, BH.out.trans (B1.mono BH.out.size)⟩
set_option maxRecDepth 100000 in
set_option maxHeartbeats 400000 in
theorem rbytes_arg (h : Nat → Int) (a : Option Addr) (n C : Nat) (w : World) (hn : n ≤ 1024) (hk : okH (upd h 2 (n : Nat)) = false) :
    Calls Tryd.prog 10 #[.agg (msg h a n C).toArray] w fun e w' => e = .returned (.tuple #[.slice none 0 0, .int .i64 2]) ∧ Below w.heap.size w w' := by
  have HK : Hid (okH (upd h 2 (n : Nat)) = false) := hk
  clear hk
  go_enter Tryd.func10, Tryd.ntmps10
  go_wp2_with (first
    | (refine wpList_box_rec rfl 29 (.tmp 0) rfl (msg h a n C) rfl w.heap.size rfl ?_; intro W0 R0 B0 z0
       have RH : Hid (Rec19 W0 w.heap.size 0 (msg h a n C)) := R0
       have BH : Hid (Below w.heap.size w W0) := B0
       clear R0 B0)
    | (refine wpList_load_rec rfl 29 (.tmp 1) rfl w.heap.size 0 (msg h a n C) rfl _ Tryd.underlying29 rfl (by kernel_rfl) RH.out ?_)
    | (go_at_call 33; refine (nseal_arg h a n C _ hn HK.out).mono ?_; rintro e W1 ⟨rfl, B1⟩))
  go_ret2
  exact ⟨rfl, BH.out.trans (B1.mono BH.out.size)⟩
set_option maxRecDepth 100000 in
set_option maxHeartbeats 400000 in
theorem rbytes_not (h : Nat → Int) (a : Option Addr) (n C : Nat) (f : Nat → Int) (w : World) (hn : n ≤ 1024) (hA : Arg w a n f) (hW : Words h) (hk : okH (upd h 2 (n : Nat)) = true) (hp : isPrep h (ofI (h 5)) = false) :
    Calls Tryd.prog 10 #[.agg (msg h a n C).toArray] w fun e w' => e = .returned (.tuple #[.slice none 0 0, .int .i64 2]) ∧ Below w.heap.size w w' := by
  have HK : Hid (okH (upd h 2 (n : Nat)) = true) := hk
  have HA : Hid (Arg w a n f) := hA
  have HW : Hid (Words h) := hW
  have HP : Hid (isPrep h (ofI (h 5)) = false) := hp
  clear hk hA hW hp
  go_enter Tryd.func10, Tryd.ntmps10
  go_wp2_with (first
    | (refine wpList_box_rec rfl 29 (.tmp 0) rfl (msg h a n C) rfl w.heap.size rfl ?_; intro W0 R0 B0 z0
       have RH : Hid (Rec19 W0 w.heap.size 0 (msg h a n C)) := R0
       have BH : Hid (Below w.heap.size w W0) := B0
       clear R0 B0)
    | (refine wpList_load_rec rfl 29 (.tmp 1) rfl w.heap.size 0 (msg h a n C) rfl _ Tryd.underlying29 rfl (by kernel_rfl) RH.out ?_)
    | (go_at_call 33; refine (nseal_ok h a n C f _ hn (HA.out.below BH.out) HW.out HK.out).mono ?_; rintro e W1 ⟨v1, rfl, hO, hB⟩
       obtain ⟨g, cap, rfl, hO'⟩ := hO.cells' (by omega)
       have R1 : Rec19 W1 w.heap.size 0 (msg h a n C) := RH.out.below hB
       have E1 : Below w.heap.size w W1 := BH.out.trans (hB.mono BH.out.size)
       have G1 : Hid (Own W1 W0.heap.size (.slice (some ⟨g, 0, none⟩) (256 + n) cap) (256 + n) (msgF (upd h 2 (n : Nat)) n f)) := hO'
       have c5 := (R1.at 5 (.int .i64 (h 5)) rfl).1
       have r5 := R1.head.1
       clear hB hO hO'))
  refine wp_region_noPanic ?_
  refine wp_region_held_drew (S := fun W' => W'.cell? ⟨w.heap.size, 5, none⟩ = some (.int .i64 (h 5)) ∧ W'.rangeAt w.heap.size 0 (hcs h)) (by kernel_rfl) ?_ (fun hHeld => ?_)
  · exact ⟨c5, r5⟩
  refine take_at (i := 0) (v := ?_) (some 14) rfl rfl (by kernel_rfl) (by kernel_rfl) (by kernel_rfl) (fun _ _ _ h => h) (Or.inl ⟨by rfl, ?_⟩) (by assumption) ?_
  rotate_left
  · (intro w hSw; (try dsimp only at hSw); go_simp; try with_reducible rfl)
  simp only [Act.put, List.setIfInBounds_toArray, List.set_cons_zero, List.set_cons_succ]
  refine take_at (i := 1) (v := _) (some 15) rfl rfl (by kernel_rfl) (by kernel_rfl) (by kernel_rfl) (fun _ _ _ h => h) (yieldsIf_load_mid (by rfl) _ _ rfl _ _ rfl _ _ (fun _ h => h.2) Tryd.underlying26 rfl (by kernel_rfl)) (by assumption) ?_
  simp only [Act.put, List.setIfInBounds_toArray, List.set_cons_zero, List.set_cons_succ]
  refine take_at (i := 2) (v := ?_) (some 16) rfl rfl (by kernel_rfl) (by kernel_rfl) (by kernel_rfl) (fun _ _ _ h => h) (Or.inl ⟨by rfl, ?_⟩) (by assumption) ?_
  rotate_left
  · (intro w hSw; (try dsimp only at hSw); go_simp; try with_reducible rfl)
  simp only [Act.put, List.setIfInBounds_toArray, List.set_cons_zero, List.set_cons_succ]
  refine take_at (i := 3) (v := ?_) (some 17) rfl rfl (by kernel_rfl) (by kernel_rfl) (by kernel_rfl) (fun _ _ _ h => h) (Or.inl ⟨by rfl, ?_⟩) (by assumption) ?_
  rotate_left
  · (intro w hSw; (try dsimp only at hSw); go_simp; try with_reducible rfl)
  simp only [Act.put, List.setIfInBounds_toArray, List.set_cons_zero, List.set_cons_succ]
  refine take_at (i := 4) (v := ?_) (some 18) rfl rfl (by kernel_rfl) (by kernel_rfl) (by kernel_rfl) (fun _ _ _ h => h) (Or.inl ⟨by rfl, ?_⟩) (by assumption) ?_
  rotate_left
  · (intro w hSw; (try dsimp only at hSw); go_simp; try with_reducible rfl)
  simp only [Act.put, List.setIfInBounds_toArray, List.set_cons_zero, List.set_cons_succ]
  refine call_at (i := 5) (some 19) 15 _ _ rfl rfl rfl (by rfl) (by kernel_rfl) #[.int .i64 (h 5)] rfl Tryd.func15 (by kernel_rfl) (by kernel_rfl) ?_
  refine (rofs_any (h 5) _).mono ?_
  rintro e w3 ⟨rfl, rfl⟩
  refine ⟨_, rfl, hHeld, fun hHeld => ?_⟩
  simp only [Act.put, List.setIfInBounds_toArray, List.set_cons_zero, List.set_cons_succ]
  refine call_at (i := 6) (some 20) 34 _ _ rfl rfl rfl (by rfl) (by kernel_rfl) #[.agg (hcs h).toArray, .int .i64 (ofI (h 5))] rfl Tryd.func34 (by kernel_rfl) (by kernel_rfl) ?_
  refine (mine_any h (ofI (h 5)) _).mono ?_
  rintro e W2 ⟨rfl, B2d⟩
  have B2 : Below W1.heap.size W1 W2 := ((Below.refl W1.heap.size W1).drew).trans B2d
  have R2 : Rec19 W2 w.heap.size 0 (msg h a n C) := R1.below B2
  rw [HP.out]
  refine ⟨_, rfl, ⟨(R2.at 5 (.int .i64 (h 5)) rfl).1, R2.head.1⟩, fun hHeld => ?_⟩
  simp only [Act.put, List.setIfInBounds_toArray, List.set_cons_zero, List.set_cons_succ]
  refine take_at (i := 7) (v := ?_) (some 21) rfl rfl (by kernel_rfl) (by kernel_rfl) (by kernel_rfl) (fun _ _ _ h => h) (Or.inl ⟨by rfl, ?_⟩) (by assumption) ?_
  rotate_left
  · (intro w hSw; (try dsimp only at hSw); go_simp; try with_reducible rfl)
  simp only [Act.put, List.setIfInBounds_toArray, List.set_cons_zero, List.set_cons_succ]
  refine wpAnyH_done (by kernel_rfl) ?_ _
  refine NoPanic.normal ?_
  go_wp2_with fail
  go_ret2
  exact ⟨rfl, E1.trans (B2.mono E1.size)⟩
set_option maxRecDepth 100000 in
set_option maxHeartbeats 400000 in
theorem rbytes_ok (h : Nat → Int) (a : Option Addr) (n C : Nat) (f : Nat → Int) (w : World) (hn : n ≤ 1024) (hA : Arg w a n f) (hW : Words h) (hk : okH (upd h 2 (n : Nat)) = true) (hp : isPrep h (ofI (h 5)) = true) :
    Calls Tryd.prog 10 #[.agg (msg h a n C).toArray] w fun e w' => ∃ g cap, e = .returned (.tuple #[.slice (some ⟨g, 0, none⟩) 1280 cap, .int .i64 0]) ∧ Arg w' (some ⟨g, 0, none⟩) 1280 (slotF h n f) ∧ Below w.heap.size w w' := by
  have HK : Hid (okH (upd h 2 (n : Nat)) = true) := hk
  have HA : Hid (Arg w a n f) := hA
  have HW : Hid (Words h) := hW
  have HP : Hid (isPrep h (ofI (h 5)) = true) := hp
  clear hk hA hW hp
  obtain ⟨k1, k2, k3, k4⟩ := wr_ar n hn
  have K3 : Hid (1280 - (256 + (n : Int)) = ((1024 - n : Nat) : Int)) := k3
  have K4 : Hid (256 + n + (1024 - n) = 1280) := k4
  clear k3 k4
  go_enter Tryd.func10, Tryd.ntmps10
  go_wp2_with (first
    | (refine wpList_box_rec rfl 29 (.tmp 0) rfl (msg h a n C) rfl w.heap.size rfl ?_; intro W0 R0 B0 z0
       have RH : Hid (Rec19 W0 w.heap.size 0 (msg h a n C)) := R0
       have BH : Hid (Below w.heap.size w W0) := B0
       clear R0 B0)
    | (refine wpList_load_rec rfl 29 (.tmp 1) rfl w.heap.size 0 (msg h a n C) rfl _ Tryd.underlying29 rfl (by kernel_rfl) RH.out ?_)
    | (go_at_call 33; refine (nseal_ok h a n C f _ hn (HA.out.below BH.out) HW.out HK.out).mono ?_; rintro e W1 ⟨v1, rfl, hO, hB⟩
       obtain ⟨g, cap, rfl, hO'⟩ := hO.cells' (by omega)
       have R1 : Rec19 W1 w.heap.size 0 (msg h a n C) := RH.out.below hB
       have E1 : Below w.heap.size w W1 := BH.out.trans (hB.mono BH.out.size)
       have G1 : Hid (Own W1 W0.heap.size (.slice (some ⟨g, 0, none⟩) (256 + n) cap) (256 + n) (msgF (upd h 2 (n : Nat)) n f)) := hO'
       have c5 := (R1.at 5 (.int .i64 (h 5)) rfl).1
       have r5 := R1.head.1
       clear hB hO hO'))
  refine wp_region_noPanic ?_
  refine wp_region_held_drew (S := fun W' => W'.cell? ⟨w.heap.size, 5, none⟩ = some (.int .i64 (h 5)) ∧ W'.rangeAt w.heap.size 0 (hcs h)) (by kernel_rfl) ?_ (fun hHeld => ?_)
  · exact ⟨c5, r5⟩
  refine take_at (i := 0) (v := ?_) (some 14) rfl rfl (by kernel_rfl) (by kernel_rfl) (by kernel_rfl) (fun _ _ _ h => h) (Or.inl ⟨by rfl, ?_⟩) (by assumption) ?_
  rotate_left
  · (intro w hSw; (try dsimp only at hSw); go_simp; try with_reducible rfl)
  simp only [Act.put, List.setIfInBounds_toArray, List.set_cons_zero, List.set_cons_succ]
  refine take_at (i := 1) (v := _) (some 15) rfl rfl (by kernel_rfl) (by kernel_rfl) (by kernel_rfl) (fun _ _ _ h => h) (yieldsIf_load_mid (by rfl) _ _ rfl _ _ rfl _ _ (fun _ h => h.2) Tryd.underlying26 rfl (by kernel_rfl)) (by assumption) ?_
  simp only [Act.put, List.setIfInBounds_toArray, List.set_cons_zero, List.set_cons_succ]
  refine take_at (i := 2) (v := ?_) (some 16) rfl rfl (by kernel_rfl) (by kernel_rfl) (by kernel_rfl) (fun _ _ _ h => h) (Or.inl ⟨by rfl, ?_⟩) (by assumption) ?_
  rotate_left
  · (intro w hSw; (try dsimp only at hSw); go_simp; try with_reducible rfl)
  simp only [Act.put, List.setIfInBounds_toArray, List.set_cons_zero, List.set_cons_succ]
  refine take_at (i := 3) (v := ?_) (some 17) rfl rfl (by kernel_rfl) (by kernel_rfl) (by kernel_rfl) (fun _ _ _ h => h) (Or.inl ⟨by rfl, ?_⟩) (by assumption) ?_
  rotate_left
  · (intro w hSw; (try dsimp only at hSw); go_simp; try with_reducible rfl)
  simp only [Act.put, List.setIfInBounds_toArray, List.set_cons_zero, List.set_cons_succ]
  refine take_at (i := 4) (v := ?_) (some 18) rfl rfl (by kernel_rfl) (by kernel_rfl) (by kernel_rfl) (fun _ _ _ h => h) (Or.inl ⟨by rfl, ?_⟩) (by assumption) ?_
  rotate_left
  · (intro w hSw; (try dsimp only at hSw); go_simp; try with_reducible rfl)
  simp only [Act.put, List.setIfInBounds_toArray, List.set_cons_zero, List.set_cons_succ]
  refine call_at (i := 5) (some 19) 15 _ _ rfl rfl rfl (by rfl) (by kernel_rfl) #[.int .i64 (h 5)] rfl Tryd.func15 (by kernel_rfl) (by kernel_rfl) ?_
  refine (rofs_any (h 5) _).mono ?_
  rintro e w3 ⟨rfl, rfl⟩
  refine ⟨_, rfl, hHeld, fun hHeld => ?_⟩
  simp only [Act.put, List.setIfInBounds_toArray, List.set_cons_zero, List.set_cons_succ]
  refine call_at (i := 6) (some 20) 34 _ _ rfl rfl rfl (by rfl) (by kernel_rfl) #[.agg (hcs h).toArray, .int .i64 (ofI (h 5))] rfl Tryd.func34 (by kernel_rfl) (by kernel_rfl) ?_
  refine (mine_any h (ofI (h 5)) _).mono ?_
  rintro e W2 ⟨rfl, B2d⟩
  have B2 : Below W1.heap.size W1 W2 := ((Below.refl W1.heap.size W1).drew).trans B2d
  have R2 : Rec19 W2 w.heap.size 0 (msg h a n C) := R1.below B2
  rw [HP.out]
  refine ⟨_, rfl, ⟨(R2.at 5 (.int .i64 (h 5)) rfl).1, R2.head.1⟩, fun hHeld => ?_⟩
  simp only [Act.put, List.setIfInBounds_toArray, List.set_cons_zero, List.set_cons_succ]
  refine take_at (i := 7) (v := ?_) (some 21) rfl rfl (by kernel_rfl) (by kernel_rfl) (by kernel_rfl) (fun _ _ _ h => h) (Or.inl ⟨by rfl, ?_⟩) (by assumption) ?_
  rotate_left
  · (intro w hSw; (try dsimp only at hSw); go_simp; try with_reducible rfl)
  simp only [Act.put, List.setIfInBounds_toArray, List.set_cons_zero, List.set_cons_succ]
  refine wpAnyH_done (by kernel_rfl) ?_ _
  refine NoPanic.normal ?_
  have E2 : Below w.heap.size w W2 := E1.trans (B2.mono E1.size)
  have nW := BH.out.size
  have G2 : Own W2 w.heap.size (.slice (some ⟨g, 0, none⟩) (256 + n) cap) (256 + n) (msgF (upd h 2 (n : Nat)) n f) := (own_below2 G1.out B2).weak nW
  obtain ⟨g', cap', W3, hr, hO3, hB3⟩ := zeros_any W2 w.heap.size (256 + n) (1024 - n) g cap _ G2 (by have := K4.out; omega) E2.size (own_base G2 (by omega)) (1280 - (256 + (n : Int))) K3.out
  rw [K4.out] at hr hO3
  clear c5 r5 R1 R2 E1 B2 B2d G1 G2 hHeld RH BH z0 nW
  have hr' := hr 27
  clear hr
  go_wp2_with (at_builtin; refine wpList_append_go rfl (.tmp 22) (.tmp 25) 27 3 rfl _ _ rfl rfl hr' ?_)
  go_ret2
  exact ⟨g', cap', rfl, ((hO3.congr (fun j _ => cat_slot h n f j)).arg (by omega) (fun j _ => slotF_byte h n f HA.out.bytes j)).1, E2.trans hB3⟩
set_option maxRecDepth 100000 in
set_option maxHeartbeats 400000 in
theorem runwritten_no (n : Int) (w : World) (hn : isSl n = false) :
    Calls Tryd.prog 12 #[.int .i64 n] w fun e w' => e = .returned (.tuple #[.slice none 0 0, .int .i64 5]) ∧ w' = w := by
  by_cases h0 : n < 0
  · clear hn
    go_enter Tryd.func12, Tryd.ntmps12
    go_wp2
    go_ret2
    exact ⟨rfl, rfl⟩
  · have h1 : 16 ≤ n := by
      rw [Bool.eq_false_iff, Ne, isSl_iff] at hn
      omega
    clear hn
    go_enter Tryd.func12, Tryd.ntmps12
    go_wp2
    go_ret2
    exact ⟨rfl, rfl⟩
set_option maxRecDepth 100000 in
set_option maxHeartbeats 400000 in
theorem runwritten_ok (n : Int) (w : World) (hn : isSl n = true) :
    Calls Tryd.prog 12 #[.int .i64 n] w fun e w' => ∃ g cap, e = .returned (.tuple #[.slice (some ⟨g, 0, none⟩) 256 cap, .int .i64 0]) ∧ Arg w' (some ⟨g, 0, none⟩) 256 (unwF n) ∧ Below w.heap.size w w' := by
  obtain ⟨h0', h1'⟩ := isSl_iff.1 hn
  have h0 : ¬ n < 0 := by omega
  have h1 : ¬ 16 ≤ n := by omega
  have HN : Hid (isSl n = true) := hn
  clear hn h0' h1'
  go_enter Tryd.func12, Tryd.ntmps12
  go_wp2_with (first
    | (refine wpList_build_to rfl 26 _ rfl (hcs (unwH n)).toArray (by kernel_rfl) ?_)
    | (refine wpList_build_to rfl 29 _ rfl (msg (unwH n) none 0 0).toArray (by kernel_rfl) ?_)
    | (go_at_call 33; refine (nseal_ok (unwH n) none 0 0 (fun _ => 0) _ (by omega) (.inl ⟨rfl, .inl rfl⟩) (unw_words n) (unw_ok HN.out)).mono ?_; rintro e W1 ⟨v1, rfl, hO, hB⟩
       obtain ⟨g, cap, rfl, hO'⟩ := hO.cells' (by omega)
       have G1 : Hid (Arg W1 (some ⟨g, 0, none⟩) 256 (unwF n)) := (hO'.arg (by omega) (fun j hj => unwF_byte n j hj)).1
       clear hO hO'))
  go_ret2
  exact ⟨g, cap, rfl, G1.out, hB⟩
end Go.Proofs.YtfpgkckcifjkcaaDoor
