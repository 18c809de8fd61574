/-
  Walks, not a claim by itself: record.batchBytes at accounts. By the verifier.
-/
import Derived.Test.YtlcnhmlcmedonaaBApp
import Derived.WalkKit
import Derived.OwnWalk
import Derived.Laws.MakeOwn
import Derived.Test.YtlcnhmlcmedonaaABytes
import Derived.Test.YtlcnhmlcmedonaaOfParts
namespace Go.Proofs.Ytlcnhmlcmedonaa
open Go.RowKit
/-- Records that lie behind one another. -/
def Recs (w : World) (b off n : Nat) (acc : Nat → Fld) : Prop := (∀ i, i < n → w.rangeAt b (off + i * 19) (acc i).cells) ∧ (∀ i, i < n → (acc i).wf) ∧ b < w.heap.size
theorem Recs.below {w w' : World} {b off n : Nat} {acc : Nat → Fld} (h : Recs w b off n acc) (hB : Below w.heap.size w w') : Recs w' b off n acc :=
  ⟨fun i hi j v hj => (hB.cell (p := ⟨b, off + i * 19 + j, none⟩) h.2.2).trans (h.1 i hi j v hj), h.2.1, Nat.lt_of_lt_of_le h.2.2 hB.size⟩
/-- The bytes of the first k records, as cells. -/
def batCells (acc : Nat → Fld) (k : Nat) : List Value := (List.range (k * 128)).map fun j => .int .u8 ((acc (j / 128)).img (j % 128))
theorem bat_step (acc : Nat → Fld) (k : Nat) : batCells acc k ++ (List.range 128).map (fun j => .int .u8 ((acc k).img j)) = batCells acc (k + 1) := by
  unfold batCells
  rw [show (k + 1) * 128 = k * 128 + 128 by omega, List.range_add, List.map_append, List.map_map]
  congr 1
  refine List.map_congr_left fun j hj => ?_
  have := List.mem_range.1 hj
  show _ = Value.int .u8 ((acc ((k * 128 + j) / 128)).img ((k * 128 + j) % 128))
  rw [show (k * 128 + j) / 128 = k by omega, show (k * 128 + j) % 128 = j by omega]
/-- What holds at the head of the loop. -/
def batRel (w : World) (n : Nat) (acc : Nat → Fld) (v i : Value) (wr : World) : Prop := ∃ k : Nat, k ≤ n ∧ i = .int .i64 k ∧ wr.ownsRow w.heap.size 5 1 v (k * 128) (batCells acc k) ∧ Below w.heap.size w wr
theorem own_below {wr u : World} {base : Nat} {e : TypeId} {sz : Nat} {v : Value} {n : Nat} {xs : List Value} (h : wr.ownsRow base e sz v n xs) (hB : Below wr.heap.size wr u) : u.ownsRow base e sz v n xs := by
  refine ⟨h.1, ?_⟩
  rcases h.2 with h0 | ⟨g, cap, cur, hv, hb, hg, rest⟩
  · exact .inl h0
  · exact .inr ⟨g, cap, cur, hv, hb, (hB.block g (Array.getElem?_eq_some_iff.1 hg).1).trans hg, rest⟩
theorem bat_rel1 (w wr u w1 : World) (n k : Nat) (acc : Nat → Fld) (v v' : Value) (hk : k < n) (hown : wr.ownsRow w.heap.size 5 1 v (k * 128) (batCells acc k)) (hu : Below wr.heap.size wr u) (bel : Below w.heap.size w wr)
    (hown' : w1.ownsRow w.heap.size 5 1 v' (k * 128 + 128) (batCells acc k ++ (List.range 128).map (fun j => .int .u8 ((acc k).img j)))) (hgrow : u.grownBy w1 v.ownBlock) : batRel w n acc v' (.int .i64 ((k : Int) + 1)) w1 := by
  rw [bat_step, show k * 128 + 128 = (k + 1) * 128 by omega] at hown'
  refine ⟨k + 1, by omega, by go_num, hown', ?_⟩
  exact (bel.trans (hu.mono bel.size)).grown hgrow (Nat.le_trans bel.size hu.size) (fun j hj => (hown.lt j hj).1)
/-- What batchBytes answers. -/
def BatPost (w : World) (n : Nat) (acc : Nat → Fld) (e : Ending) (w' : World) : Prop := ∃ v, e = .returned (.tuple #[v, .int .i64 0]) ∧ w'.ownsRow w.heap.size 5 1 v (n * 128) (batCells acc n) ∧ Below w.heap.size w w'
set_option maxRecDepth 100000 in
set_option maxHeartbeats 2000000 in
theorem batchA_ok (b off n C : Nat) (acc : Nat → Fld) (w : World) (h : Recs w b off n acc) (hn : n ≤ 8) :
    Calls Try.prog 36 #[.slice (some ⟨b, off, none⟩) n C, .func (.func 6) #[] #[]] w (BatPost w n acc) := by
  obtain ⟨i0, hi, hz0, hz1, hz2⟩ := info_parts info_u8
  obtain ⟨W0, hmk0, hown0, hg0⟩ := run_make_own (P := Try.prog) w w.heap.size 31 5 i0 (.int .u8 0) 1 Try.underlying31 hi hz0 hz1 .i64 .i64 (n * 128) (by rw [hz2]; omega) (by unfold maxLen; omega) (Nat.le_refl _)
  have hmk : (Instr.makeSlice 31 (.int .i64 0) (.int .i64 ((n : Int) * 128))).run Try.prog w = .ok (.slice (some ⟨w.heap.size, 0, none⟩) 0 (n * 128)) W0 := by
    rw [show ((n * 128 : Nat) : Int) = (n : Int) * 128 by omega] at hmk0
    exact hmk0
  have ST : Hid (batRel w n acc (.slice (some ⟨w.heap.size, 0, none⟩) 0 (n * 128)) (.int .i64 0) W0) := ⟨0, by omega, rfl, by simpa [batCells] using hown0, (Below.refl _ _).grown hg0 (Nat.le_refl _) (fun k hk => by cases hk)⟩
  have HR : Hid (Recs w b off n acc) := h
  have hb := h.2.2
  have m1 : wrap64 ((n : Int) * 128) = (n : Int) * 128 := by unfold wrap64; omega
  have m2 : IntKind.i64.wrap ((n : Int) * 128) = (n : Int) * 128 := by rw [IntKind.wrap_i64]; omega
  have m3 : ¬ (8 : Int) < n := by omega
  clear h hmk0 hown0 hg0
  go_enter Try.func36, Try.ntmps36
  go_wp2_with fail
  go_loopw [6, 18] (fun v i wr => batRel w n acc v i wr) (fun _ i _ => n - (intOf i).toNat)
  case atStart => exact ST.out
  case round =>
    obtain ⟨k, hk, rfl, hown, bel⟩ := hrel
    clear ST hmk
    have BE : Hid (Below w.heap.size w wr) := bel
    by_cases hlt : k < n
    · have i1 : (k : Int) < n := by omega
      have rng : wr.rangeAt b (off + k * 19) (acc k).cells := fun j v hj => (bel.cell (p := ⟨b, off + k * 19 + j, none⟩) hb).trans (HR.out.1 k hlt j v hj)
      clear bel
      go_wp2_with (first
        | (refine wpList_load_mid (P := Try.prog) rfl 28 (.tmp 20) rfl b (off + k * 19) rfl (acc k).cells _ rng Try.underlying28 rfl (by kernel_rfl) ?_)
        | (refine wpList_store_rec rfl 28 (.tmp 8) _ rfl wr.heap.size 0 zero19 (acc k).cells rfl rfl (Rec19.new wr 28 zero19) rfl (by kernel_rfl) (acc k).cells_one ?_; intro W2 R2 K2)
        | (refine wpList_load_rec rfl 28 (.tmp 8) rfl wr.heap.size 0 (acc k).cells rfl _ Try.underlying28 rfl (by kernel_rfl) R2 ?_))
      refine (abytes_any (acc k) _ (HR.out.2.1 k hlt)).mono ?_
      rintro e w3 ⟨b3, rfl, hb3, R3, K3⟩
      have D2 : Below wr.heap.size wr W2 := ((Below.refl _ _).alloc (Nat.le_refl _) _).trans (K2.below (Nat.le_refl _) (by simp))
      have D3 : Below wr.heap.size wr w3 := D2.trans (K3.mono D2.size)
      have own3 := own_below hown D3
      clear K2 K3 R2 D2 rng
      go_wp2_with (at_builtin; refine wpList_append_own _ rfl _ _ 31 rfl w.heap.size 5 i0 (.int .u8 0) 1 1 Try.underlying31 hi hz0 hz1 hz2 rfl (by decide) _ _ _ rfl own3 ⟨b3, 0, none⟩ 128 128 ((List.range 128).map fun j => .int .u8 ((acc k).img j)) rfl (by simp) ?c1 ?c2 ?c3 ?c4 ?c5 ?_)
      case c1 =>
        intro j u hj
        rw [List.getElem?_map] at hj
        rw [Addr.add_mid, Nat.zero_add]
        by_cases g : j < 128
        · rw [List.getElem?_range g] at hj
          rw [R3.1 j g]
          exact hj
        · rw [List.getElem?_eq_none (by simp; omega)] at hj
          cases hj
      case c2 => intro u hu; rw [List.mem_map] at hu; obtain ⟨j, _, rfl⟩ := hu; rfl
      case c3 => unfold maxLen; omega
      case c4 => omega
      case c5 => exact Nat.le_trans BE.out.size D3.size
      intro v' w4 hown' hgrow _
      have RR : Hid (batRel w n acc v' (.int .i64 ((k : Int) + 1)) w4) := bat_rel1 w wr w3 w4 n k acc _ v' hlt hown D3 BE.out hown' hgrow
      clear hown' hgrow hown own3 D3 R3
      go_wp2_with fail
      go_roundw
      case rel => exact RR.out
      case measure => simp [intOf]; omega
    · obtain rfl : k = n := by omega
      go_wp2_with fail
      exact bodyPost_ret (by simp [results, Try.results36, go_sem]) rfl ⟨_, rfl, hown, BE.out⟩
end Go.Proofs.Ytlcnhmlcmedonaa
