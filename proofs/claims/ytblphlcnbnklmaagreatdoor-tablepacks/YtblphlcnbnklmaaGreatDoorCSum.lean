/-
  Walks, not a claim by itself: checksum.Sum. By the verifier.
-/
import Derived.Test.YtblphlcnbnklmaaGreatDoorCDig
import Derived.ChangeKeysEq
namespace Go.Proofs.YtblphlcnbnklmaaGreatDoor
open Go.RowKit
/-- The bytes of a seal, of the digest's words. -/
def sealOf (s : S8) (j : Nat) : Int := s.at (j / 4) / 2 ^ (24 - j % 4 * 8) % 256
/-- The seal of bytes. -/
def sealF (n : Nat) (f : Nat → Int) : Nat → Int := sealOf (dig n f)
theorem zero8_16 : (Tryz.prog.info? 170).bind (·.zero) = some (.agg (cl .u8 16 fun _ => 0).toArray) := by kernel_rfl
/-- A row, k of its places laid. -/
def upto (g : Nat → Int) (k j : Nat) : Int := if j < k then g j else 0
theorem upto_step (g : Nat → Int) (k : Nat) : upd (upto g k) k (g k) = upto g (k + 1) := by
  funext j
  unfold upd upto
  by_cases h : j = k
  · subst h; rw [if_pos rfl, if_pos (by omega)]
  · rw [if_neg h]
    by_cases g : j < k
    · rw [if_pos g, if_pos (by omega)]
    · rw [if_neg g, if_neg (by omega)]
/-- What holds at the head of the loop. -/
def sumRel (w : World) (p q : Nat) (s : S8) (i : Value) (wr : World) : Prop := ∃ k : Nat, k ≤ 16 ∧ i = .int .i64 k ∧ IRow wr p .u32 8 s.at ∧ IRow wr q .u8 16 (upto (sealOf s) k) ∧ IRow wr w.heap.size .u8 16 (fun _ => 0) ∧ w.heap.size < p ∧ p < q ∧ Below w.heap.size w wr
set_option maxRecDepth 100000 in
set_option maxHeartbeats 1000000 in
theorem sum_any (a : Option Addr) (n C : Nat) (f : Nat → Int) (w : World) (h : Arg w a n f) (hC : n ≤ C) (hn : n ≤ 1000000) :
    Calls Tryz.prog 156 #[.slice a n C] w fun e w' => e = .returned (.agg (cl .u8 16 (sealF n f)).toArray) ∧ Below w.heap.size w w' := by
  have HA : Hid (Arg w a n f) := h
  clear h
  unfold sealF
  go_enter Tryz.func156, Tryz.ntmps156
  go_wp2_with (first
    | (refine wpList_alloc_row rfl 170 rfl .u8 16 w.heap.size rfl zero8_16 ?_; intro W1 hR1 hB1 hz1)
    | (go_at_call 190; refine (digest_any a n C f _ (HA.out.below hB1) hC hn).mono ?_; rintro e w2 ⟨rfl, hB2⟩))
  have ST : Hid (sumRel w w2.heap.size (w2.heap.size + 1) (dig n f) (.int .i64 0) ((w2.alloc (.cells #[.int .u32 (dig n f).a, .int .u32 (dig n f).b, .int .u32 (dig n f).c, .int .u32 (dig n f).d, .int .u32 (dig n f).e, .int .u32 (dig n f).f, .int .u32 (dig n f).g, .int .u32 (dig n f).h] 260)).alloc (.cells #[.int .u8 0, .int .u8 0, .int .u8 0, .int .u8 0, .int .u8 0, .int .u8 0, .int .u8 0, .int .u8 0, .int .u8 0, .int .u8 0, .int .u8 0, .int .u8 0, .int .u8 0, .int .u8 0, .int .u8 0, .int .u8 0] 170))) := by
    have z := hB2.size
    have A := (IRow.new w2 260 .u32 8 (dig n f).at).alloc (.cells (cl .u8 16 fun _ => 0).toArray 170)
    have B := IRow.new (w2.alloc (.cells (cl .u32 8 (dig n f).at).toArray 260)) 170 .u8 16 (fun _ => 0)
    rw [World.size_alloc] at B
    have E : Below w.heap.size w w2 := hB1.trans (hB2.mono (by omega))
    exact ⟨0, by omega, rfl, A, B.congr (fun j _ => by unfold upto; rw [if_neg (by omega)]), ((hR1.below hB2).alloc _).alloc _, by omega, by omega, (E.alloc E.size _).alloc (by simp; omega) _⟩
  have hpq : w.heap.size < w2.heap.size := by have := hB2.size; omega
  clear hR1 hB1 hz1 hB2
  generalize ((w2.alloc (.cells #[.int .u32 (dig n f).a, .int .u32 (dig n f).b, .int .u32 (dig n f).c, .int .u32 (dig n f).d, .int .u32 (dig n f).e, .int .u32 (dig n f).f, .int .u32 (dig n f).g, .int .u32 (dig n f).h] 260)).alloc (.cells #[.int .u8 0, .int .u8 0, .int .u8 0, .int .u8 0, .int .u8 0, .int .u8 0, .int .u8 0, .int .u8 0, .int .u8 0, .int .u8 0, .int .u8 0, .int .u8 0, .int .u8 0, .int .u8 0, .int .u8 0, .int .u8 0] 170)) = W3 at ST ⊢
  generalize w2.heap.size = p at ST hpq ⊢
  obtain ⟨s, hs'⟩ : ∃ s, dig n f = s := ⟨_, rfl⟩
  rw [hs'] at ST ⊢
  have HS : Hid (dig n f = s) := hs'
  clear hs'
  go_loopw [8] (fun i wr => sumRel w p (p + 1) s i wr) (fun i _ => 16 - (intOf i).toNat)
  case atStart => exact ST.out
  case round =>
    obtain ⟨k, hk, rfl, hP, hQ, hO, hp, hq, hB⟩ := hrel
    clear ST
    have RP : Hid (IRow wr p .u32 8 s.at) := hP
    have RQ : Hid (IRow wr (p + 1) .u8 16 (upto (sealOf s) k)) := hQ
    have RO : Hid (IRow wr w.heap.size .u8 16 (fun _ => 0)) := hO
    have BE : Hid (Below w.heap.size w wr) := hB
    by_cases hlt : k < 16
    · have c1 := hP.1 (k / 4) (by omega)
      have c2 := hQ.1 k hlt
      have f2 := hQ.2.1 k
      clear hP hQ hO hB
      have e1 : (0 : Int) ≤ (k : Int) / 4 := by omega
      have e2 : (k : Int) / 4 < 8 := by omega
      have e3 : ((k : Int) / 4).toNat = k / 4 := by omega
      have e4 : (0 : Int) ≤ 24 - (k : Int) % 4 * 8 := by omega
      have e5 : 24 - (k : Int) % 4 * 8 < 32 := by omega
      have e6 : (24 - (k : Int) % 4 * 8).toNat = 24 - k % 4 * 8 := by omega
      have e7 : (k : Int) < 16 := by omega
      go_wp2_with fail
      exact ⟨⟨k + 1, by omega, by go_num, RP.out.but (But.set _ _ _) (by omega), by rw [← upto_step]; exact RQ.out.set k _, RO.out.but (But.set _ _ _) (by omega), hp, hq, BE.out.setCell (by show w.heap.size ≤ p + 1; omega) _⟩, by simp [intOf]; omega⟩
    · obtain rfl : k = 16 := by omega
      clear hP hQ hO hB
      go_wp2_with (first
        | (refine wpList_load_irow rfl 170 (.tmp 4) rfl (p + 1) .u8 16 (upto (sealOf s) 16) rfl _ Tryz.underlying170 rfl (by kernel_rfl) RQ.out ?_)
        | (refine wpList_store_row rfl 170 (.tmp 2) _ rfl w.heap.size .u8 16 (upto (sealOf s) 16) (fun _ => 0) rfl rfl RO.out (by kernel_rfl) ?_; intro W5 hR5 hB5 hz5))
      have hl := hR5.run_load 170 _ Tryz.underlying170 rfl (by kernel_rfl)
      refine bodyPost_ret (v := .agg (cl .u8 16 (upto (sealOf s) 16)).toArray) (by simp [results, Tryz.results156, asAddr, Act.put, hl]) rfl ⟨?_, ?_⟩
      · rw [HS.out, cl_congr .u8 16 (upto (sealOf s) 16) (sealOf s) (fun j hj => by unfold upto; rw [if_pos hj])]
      · exact BE.out.trans (hB5.below (Nat.le_refl _) BE.out.size)
theorem sealF_byte (n : Nat) (f : Nat → Int) (j : Nat) : 0 ≤ sealF n f j ∧ sealF n f j < 256 := by unfold sealF sealOf; omega
theorem sealF_congr (n : Nat) (f g : Nat → Int) (h : ∀ j, j < n → f j = g j) : sealF n f = sealF n g := by unfold sealF; rw [dig_congr n f g h]
/-! Arrays of sixteen bytes held against one another. -/
theorem und16 : Tryz.prog.underlying 170 = some (.array 16 5) := by kernel_rfl
theorem cell8 : Tryz.prog.cellsOf 5 = 1 := by kernel_rfl
theorem items_eq (f g : Nat → Int) (N : Nat) (w : World) : ∀ is : List Nat, (∀ i ∈ is, i < N) → (Op.eqItems 9999 5 1 (cl .u8 N f).toArray (cl .u8 N g).toArray is).run Tryz.prog w = .ok (decide (∀ i ∈ is, f i = g i)) w
  | [], _ => by simp [Op.eqItems]
  | i :: is, h => by
    have hi := h i List.mem_cons_self
    have ih := items_eq f g N w is (fun j hj => h j (List.mem_cons_of_mem _ hj))
    have hp : ∀ z : Nat → Int, (part 5 (cl .u8 N z).toArray (i * 1)).run Tryz.prog w = .ok (.int .u8 (z i)) w := fun z => by
      simp [part, isAgg, Sem.run_bind, run_underlying Tryz.underlying5, cl_at .u8 N z i hi]
    have he : (Op.equalIn 9999 5 (.int .u8 (f i)) (.int .u8 (g i))).run Tryz.prog w = .ok (decide (f i = g i)) w := by
      rw [run_equalIn_int w 9998 5 .u8 .u8 (f i) (g i) Tryz.underlying5]
      have : (f i == g i) = decide (f i = g i) := by rw [Bool.eq_iff_iff]; simp
      simp [this]
    simp only [Op.eqItems, Sem.run_bind, hp, he, Result.andThen_ok]
    by_cases e : f i = g i
    · simp [ih, e]
    · simp [e]
/-- Whether N numbers are the same. -/
def eqN (N : Nat) (f g : Nat → Int) : Bool := decide (∀ i ∈ List.range N, f i = g i)
theorem eqN_iff (N : Nat) (f g : Nat → Int) : eqN N f g = true ↔ ∀ i, i < N → f i = g i := by unfold eqN; simp [List.mem_range]
theorem eqIn16 (f g : Nat → Int) (w : World) : (Op.equalIn 10000 170 (.agg (cl .u8 16 f).toArray) (.agg (cl .u8 16 g).toArray)).run Tryz.prog w = .ok (eqN 16 f g) w := by
  obtain ⟨i, hi, _⟩ : ∃ i, Tryz.prog.info? 5 = some i ∧ True := by
    have : (Tryz.prog.info? 5).isSome = true := by kernel_rfl
    obtain ⟨i, hi⟩ := Option.isSome_iff_exists.1 this
    exact ⟨i, hi, trivial⟩
  rw [run_equalIn_array w 9999 _ _ und16 hi, cell8, items_eq f g 16 w (List.range 16) (fun i hi => List.mem_range.1 hi)]
  rfl
theorem eq16 (f g : Nat → Int) (w : World) : (binOp .eql 170 (.agg (cl .u8 16 f).toArray) (.agg (cl .u8 16 g).toArray)).run Tryz.prog w = .ok (.bool (eqN 16 f g)) w := by
  rw [run_eql_struct, eqIn16]
  rfl
theorem guard16 : Tryz.prog.eqGuardType Tryz.prog.depth 170 = false := by kernel_rfl
end Go.Proofs.YtblphlcnbnklmaaGreatDoor
