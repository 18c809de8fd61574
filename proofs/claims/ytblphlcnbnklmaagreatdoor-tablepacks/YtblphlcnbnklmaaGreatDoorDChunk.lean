/-
  Walks, not a claim by itself: slices.Chunk over pieces of 256 bytes. By the verifier.
-/
import Derived.Test.YtblphlcnbnklmaaGreatDoorDReg
namespace Go.Proofs.YtblphlcnbnklmaaGreatDoor
open Go.RowKit Go.Shelf
attribute [local go_sem] Oper.semAt_some
set_option maxHeartbeats 1000000 in
theorem chunk_in (F : Fence) (n : Nat) (h5 : F.fn 176) (hro : F.round = none) (a : Option Addr) (len cap : Nat) (w : World) :
    CallsIn F n Tryz.prog 176 #[.slice a len cap, .int .i64 256] w fun e w' => e = .returned (.func (.func 201) #[] #[.pointer (some ⟨w.heap.size, 0, none⟩), .pointer (some ⟨w.heap.size + 1, 0, none⟩)]) ∧ w' = (w.alloc (.cells #[.slice a len cap] 23)).alloc (.cells #[.int .i64 256] 3) := by
  refine callsIn_of_wp Tryz.func176 rfl h5 ?_ hro
  simp only [Tryz.ntmps176, List.size_toArray, List.length_cons, List.length_nil, Nat.reduceAdd, Nat.reduceSub, Array.replicate_succ, Array.replicate_zero, List.push_toArray, List.append_toArray, List.nil_append, List.cons_append]
  gi_wp2
  go_ret
  exact ⟨rfl, rfl⟩

/-- The first k pieces' numbers. -/
def upTo (c k : Nat) : List (Fin c) := (List.finRange c).take k
theorem upTo_succ (c k : Nat) (h : k < c) : upTo c (k + 1) = upTo c k ++ [⟨k, h⟩] := by
  unfold upTo
  rw [List.take_add_one]
  congr 1
  simp [h]
theorem upTo_length (c k : Nat) (h : k ≤ c) : (upTo c k).length = k := by simp [upTo, h]
/-- What a round keeps: the closure's two boxes. -/
def Kc (Bs Bn : Nat) (A B : World) : Prop := B.cell? ⟨Bs, 0, none⟩ = A.cell? ⟨Bs, 0, none⟩ ∧ B.cell? ⟨Bn, 0, none⟩ = A.cell? ⟨Bn, 0, none⟩
theorem Kc.refl (Bs Bn : Nat) (A : World) : Kc Bs Bn A A := ⟨rfl, rfl⟩
theorem Kc.trans {Bs Bn : Nat} {A B C : World} (h : Kc Bs Bn A B) (k : Kc Bs Bn B C) : Kc Bs Bn A C := ⟨k.1.trans h.1, k.2.trans h.2⟩
theorem Kc.drew (Bs Bn : Nat) (A : World) : Kc Bs Bn A A.drew := ⟨rfl, rfl⟩
set_option maxRecDepth 100000 in
set_option maxHeartbeats 2000000 in
theorem chunk1_in (F : Fence) (n : Nat) (h7 : F.fn 201) (hro : F.round = none) (hn : 1 ≤ n) (l Bs Bn b off c C : Nat) (hc : c ≤ 80) (hC : c * 256 ≤ C) (J Jx : List (Fin c) → World → Prop) (hJd : ∀ pre W, J pre W → J pre W.drew)
    (hY : ∀ pre x W, J pre W → pre.length < c → YieldAt F (n - 1) Tryz.prog l #[.slice (some ⟨b, off + x.1 * 256, none⟩) 256 256] W fun e W' =>
      (e = .returned (.bool true) ∧ J (pre ++ [x]) W' ∧ Kc Bs Bn W W') ∨ (e = .returned (.bool false) ∧ Jx (pre ++ [x]) W'))
    (W : World) (hBs : W.cell? ⟨Bs, 0, none⟩ = some (.slice (some ⟨b, off, none⟩) (c * 256) C)) (hBn : W.cell? ⟨Bn, 0, none⟩ = some (.int .i64 256)) (h0 : J [] W) :
    CallsIn F n Tryz.prog 201 #[.func (.yield l) #[] #[], .pointer (some ⟨Bs, 0, none⟩), .pointer (some ⟨Bn, 0, none⟩)] W fun e W' => (∃ v, e = .returned v) ∧
      ((∃ ys, ys = upTo c c ∧ J ys W') ∨ (∃ pre, (∃ k, k ≤ c ∧ pre = upTo c k) ∧ Jx pre W')) := by
  refine callsIn_of_wp Tryz.func201 rfl h7 ?_ hro
  simp only [Tryz.ntmps201, List.size_toArray, List.length_cons, List.length_nil, Nat.reduceAdd, Nat.reduceSub, Array.replicate_succ, Array.replicate_zero, List.push_toArray, List.append_toArray, List.nil_append, List.cons_append]
  gi_wp2
  gi_loopw [4] (fun i wr => ∃ k : Nat, k ≤ c ∧ i = .int .i64 ((k : Int) * 256) ∧ J (upTo c k) wr ∧ Kc Bs Bn W wr)
    (fun i _ => c * 256 - (intOf i).toNat)
  case atStart => exact ⟨0, Nat.zero_le _, rfl, h0, Kc.refl _ _ _⟩
  case round =>
    obtain ⟨k, hk, rfl, hJs, hnx⟩ := hrel
    have e1 := hnx.1.trans hBs
    have e2 := hnx.2.trans hBn
    by_cases hlt : k < c
    · obtain ⟨fn, tmps, assign, body, hy, hR⟩ := hY _ ⟨k, hlt⟩ wr.drew (hJd _ _ hJs) (by rw [upTo_length _ _ hk]; exact hlt)
      dsimp only at hy
      have i0 : (k : Int) * 256 < (c : Int) * 256 := by omega
      have i1 : (0 : Int) ≤ (k : Int) * 256 := by omega
      have i2 : ((k : Int) * 256).toNat = k * 256 := by omega
      have i3 : (k : Int) * 256 ≤ C := by omega
      have i4 : ¬ C = k * 256 := by omega
      have i5 : ¬ ((c * 256 - k * 256 : Nat) : Int) < 256 := by omega
      have i6 : (k : Int) * 256 + 256 ≤ C := by omega
      have i7 : ((k : Int) * 256 + 256).toNat = k * 256 + 256 := by omega
      have i8 : k * 256 + 256 - k * 256 = 256 := by omega
      have i9 : wrap64 ((k : Int) * 256 + 256) = (k : Int) * 256 + 256 := by unfold wrap64; omega
      have i10 : IntKind.i64.wrap ((k : Int) * 256 + 256) = (k : Int) * 256 + 256 := by rw [IntKind.wrap_i64]; omega
      gi_wp2
      gi_region
      all_goals gi_wp2
      all_goals
        refine hR.mono ?_
        rintro e W3 (⟨rfl, hJ3, hk3⟩ | ⟨rfl, hJx3⟩)
        · have e3 := hk3.1.trans e1
          have e4 := hk3.2.trans e2
          gi_wp2
          go_roundw
          case rel => exact ⟨k + 1, by omega, by congr 1; omega, by rw [upTo_succ c k hlt]; exact hJ3, hnx.trans ((Kc.drew _ _ _).trans hk3)⟩
          case measure => simp [intOf]; omega
        · gi_wp2
          refine bodyPost_ret (results_none rfl _ _ _) rfl ?_
          exact ⟨⟨_, rfl⟩, .inr ⟨_, ⟨k + 1, by omega, (upTo_succ c k hlt).symm⟩, hJx3⟩⟩
    · obtain rfl : k = c := by omega
      gi_wp2
      go_end0
      exact ⟨⟨_, rfl⟩, .inl ⟨_, rfl, hJs⟩⟩
theorem chunk_stops (F : Fence) (n : Nat) (h7 : F.fn 201) (hro : F.round = none) (hn : 1 ≤ n) (Bs Bn b off c C : Nat) (hc : c ≤ 80) (hC : c * 256 ≤ C) (w : World) (hBs : Bs < w.heap.size) (hBn : Bn < w.heap.size)
    (h1 : w.cell? ⟨Bs, 0, none⟩ = some (.slice (some ⟨b, off, none⟩) (c * 256) C)) (h2 : w.cell? ⟨Bn, 0, none⟩ = some (.int .i64 256)) :
    SeqStopsK F n Tryz.prog 201 #[.pointer (some ⟨Bs, 0, none⟩), .pointer (some ⟨Bn, 0, none⟩)] (fun x : Fin c => #[Value.slice (some ⟨b, off + x.1 * 256, none⟩) 256 256]) (Kc Bs Bn) (fun ys => ys = upTo c c) (fun pre => ∃ k, k ≤ c ∧ pre = upTo c k) c w := fun l J Jx W hW hJ _ hY h0 =>
  chunk1_in F n h7 hro hn l Bs Bn b off c C hc hC J Jx (fun pre W hj => hJ pre W W.drew none hj ⟨rfl, rfl, rfl, Nat.le_refl _, fun _ _ _ => rfl⟩ (fun r e => by cases e)) hY W ((hW.cell (p := ⟨Bs, 0, none⟩) hBs).trans h1) ((hW.cell (p := ⟨Bn, 0, none⟩) hBn).trans h2) h0
end Go.Proofs.YtblphlcnbnklmaaGreatDoor
