/-
  Walks, not a claim by itself: the blocks of a set, gone through. By the verifier.
-/
import Derived.Test.YtkncnpjhfcfmnaaDoorIter
import Derived.Test.YtkncnpjhfcfmnaaDoorFTurn
namespace Go.Proofs.YtkncnpjhfcfmnaaDoor
open Go.RowKit Go.Shelf
attribute [local go_sem] Oper.semAt_some
/-- The closure's boxes. -/
structure ThrMem (Bn Bh n : Nat) (hv : Value) (W : World) : Prop where
  cn : W.cell? ⟨Bn, 0, none⟩ = some (.int .i64 (n : Int))
  ch : W.cell? ⟨Bh, 0, none⟩ = some hv
theorem through_in (F : Fence) (m : Nat) (h5 : F.fn 50) (hro : F.round = none) (n : Int) (f : FuncId) (xs ys : Array Value) (w : World) :
    CallsIn F m Tryd.prog 50 #[.int .i64 n, .func (.func f) xs ys] w fun e w' => e = .returned (.func (.func 56) #[] #[.pointer (some ⟨w.heap.size, 0, none⟩), .pointer (some ⟨w.heap.size + 1, 0, none⟩)]) ∧ w' = (w.alloc (.cells #[.int .i64 n] 3)).alloc (.cells #[.func (.func f) xs ys] 58) := by
  refine callsIn_of_wp Tryd.func50 rfl h5 ?_ hro
  simp only [Tryd.ntmps50, List.size_toArray, List.length_cons, List.length_nil, Nat.reduceAdd, Nat.reduceSub, Array.replicate_succ, Array.replicate_zero, List.push_toArray, List.append_toArray, List.nil_append, List.cons_append]
  gi_wp2
  go_ret
  exact ⟨rfl, rfl⟩
set_option maxRecDepth 100000 in
set_option maxHeartbeats 2000000 in
theorem through1_in (m : Nat) (hm : 1 ≤ m) (l Bn Bh n : Nat) (hn : n ≤ 512) (f : FuncId) (hen : ∀ args V, (callFunc f args).run Tryd.prog V = .ok (.enter f args) V) (xs ys : List Value) (v : Nat → Int) (J : Nat → World → Prop) (Jx : World → Prop) (hM : ∀ k W, J k W → ThrMem Bn Bh n (.func (.func f) xs.toArray ys.toArray) W) (hB : ∀ k W W', J k W → Below W.heap.size W W' → J k W')
    (hH : ∀ k W, k < n → J k W → Calls Tryd.prog f (xs ++ ((Value.int .i64 ((k : Int) + 1)) :: ys)).toArray W fun e w' => e = .returned (.int .i64 (v k)) ∧ Below W.heap.size W w')
    (hY : ∀ k W, k < n → J k W → YieldAt Fence.wide (m - 1) Tryd.prog l #[.int .i64 ((k : Int) + 1), .int .i64 (v k)] W fun e W' => (e = .returned (.bool true) ∧ J (k + 1) W') ∨ (e = .returned (.bool false) ∧ Jx W'))
    (W : World) (h0 : J 0 W) :
    CallsIn Fence.wide m Tryd.prog 56 #[.func (.yield l) #[] #[], .pointer (some ⟨Bn, 0, none⟩), .pointer (some ⟨Bh, 0, none⟩)] W fun e W' => (∃ v, e = .returned v) ∧ (J n W' ∨ Jx W') := by
  refine callsIn_of_wp Tryd.func56 rfl trivial ?_ rfl
  simp only [Tryd.ntmps56, List.size_toArray, List.length_cons, List.length_nil, Nat.reduceAdd, Nat.reduceSub, Array.replicate_succ, Array.replicate_zero, List.push_toArray, List.append_toArray, List.nil_append, List.cons_append]
  gi_wp2
  gi_loopw [4] (fun i wr => ∃ k : Nat, k ≤ n ∧ i = .int .i64 ((k : Int) + 1) ∧ J k wr) (fun i _ => 600 - (RowKit.intOf i).toNat)
  case atStart => exact ⟨0, Nat.zero_le _, rfl, h0⟩
  case round =>
    obtain ⟨k, hk, rfl, hJ⟩ := hrel
    have M := hM k wr hJ
    have c1 := M.cn
    have c2 := M.ch
    clear M
    by_cases hlt : k < n
    · have HC := hidIt (hH k wr hlt hJ)
      have HJ := hidIt hJ
      have i0 : (k : Int) + 1 ≤ (n : Int) := by omega
      have i1 : IntKind.i64.wrap ((k : Int) + 1 + 1) = (k : Int) + 1 + 1 := by rw [IntKind.wrap_i64]; omega
      have i2 : wrap64 ((k : Int) + 1 + 1) = (k : Int) + 1 + 1 := by unfold wrap64; omega
      clear hJ h0
      gi_wp2
      refine ⟨trivial, ?_⟩
      refine CallsIn.mono ((callsIn_wide (n := _)).2 HC.out) ?_
      rintro e W2 ⟨rfl, B2⟩
      obtain ⟨fn, tmps, assign, body, hy, hR⟩ := hY k W2 hlt (hB k wr W2 HJ.out B2)
      clear B2
      gi_wp2
      refine hR.mono ?_
      rintro e W3 (⟨rfl, hJ3⟩ | ⟨rfl, hJx3⟩)
      · gi_wp2
        go_roundw
        case rel => exact ⟨k + 1, by omega, by simp, hJ3⟩
        case measure => simp [RowKit.intOf]; omega
      · gi_wp2
        refine bodyPost_ret (results_none rfl _ _ _) rfl ?_
        exact ⟨⟨_, rfl⟩, .inr hJx3⟩
    · obtain rfl : k = n := by omega
      have i0 : ¬ (k : Int) + 1 ≤ (k : Int) := by omega
      gi_wp2
      go_end0
      exact ⟨⟨_, rfl⟩, .inl hJ⟩
/-- A range over the blocks, outside of every other such loop. -/
theorem range_thr {m : Nat} {gop : Operand} (p1 p2 : Tmp) {assign body : Code} {Q : Exit → Act → World → Prop} {a : Act} {w : World} (hm : 2 ≤ m) (Bn Bh n : Nat) (hn : n ≤ 512) (f : FuncId) (hen : ∀ args V, (callFunc f args).run Tryd.prog V = .ok (.enter f args) V) (xs ys : List Value) (v : Nat → Int)
    (hg : a.eval gop = .func (.func 56) #[] #[.pointer (some ⟨Bn, 0, none⟩), .pointer (some ⟨Bh, 0, none⟩)]) (I : Nat → World → Prop) (hIb : ∀ k W W', I k W → Below w.heap.size W W' → I k W') (hIs : ∀ k W, I k W → w.heap.size ≤ W.heap.size) (h0 : I 0 w)
    (hM : ∀ k W, I k W → ThrMem Bn Bh n (.func (.func f) xs.toArray ys.toArray) W)
    (hH : ∀ k W, k < n → I k W → Calls Tryd.prog f (xs ++ ((Value.int .i64 ((k : Int) + 1)) :: ys)).toArray W fun e w' => e = .returned (.int .i64 (v k)) ∧ Below W.heap.size W w')
    (hround : ∀ (l k : Nat) (W : World), k < n → I k W → w.heap.size ≤ l → l < W.heap.size → assign.wpIn (Fence.wide.inRound l) (m - 1 - 1) Tryd.prog
      (Exit.then (fun a₁ W₁ => KeepsFrom w.heap.size W W₁ ∧ ∀ W₂, But l W₁ W₂ → W₂.heap.size = W₁.heap.size → body.wpIn (Fence.wide.inRound l) (m - 1 - 1) Tryd.prog (rndP w.heap.size I (fun _ _ => False) k W₂) a₁ W₂) (fun _ _ _ => False))
      { tmps := (a.tmps.setIfInBounds p1 (.int .i64 ((k : Int) + 1))).setIfInBounds p2 (.int .i64 (v k)), defers := [] } W)
    (hdone : ∀ (D : Nat) (W : World), w.heap.size ≤ D → I n W → W.heap[D]? = some (.deferred (some [])) → Q .normal { a with defers := { target := .collected D, args := #[] } :: a.defers } W) :
    (Code.rangeFunc gop #[p1, p2] assign body).wpIn Fence.wide m Tryd.prog Q a w :=
  range_iter p1 p2 hm 56 #[.pointer (some ⟨Bn, 0, none⟩), .pointer (some ⟨Bh, 0, none⟩)] n (fun k => .int .i64 ((k : Int) + 1)) (fun k => .int .i64 (v k)) (fun _ _ => by simp [go_sem]) hg I (fun _ _ => False) hIb hIs (fun _ _ _ h _ => h) (fun _ _ h => h.elim) h0
    (fun l J Jx hJ hB hY V h0 => through1_in (m - 1) (by omega) l Bn Bh n hn f hen xs ys v J Jx (fun k W h => hM k W (hJ k W h)) hB (fun k W hk h => hH k W hk (hJ k W h)) hY V h0)
    hround hdone (fun _ _ _ _ h _ => h.elim)
end Go.Proofs.YtkncnpjhfcfmnaaDoor
