/-
  Walks, not a claim by itself: record.batchBytes at transfers, at no records and at too many; AccountsBytes and TransfersBytes. By the verifier.
-/
import Derived.Test.YtlcnhmlcmedonaaXSame
import Derived.Test.YtlcnhmlcmedonaaTBytes
namespace Go.Proofs.Ytlcnhmlcmedonaa
open Go.RowKit
set_option maxRecDepth 100000 in
set_option maxHeartbeats 2000000 in
theorem batchT_ok (b off n C : Nat) (acc : Nat → Fld) (w : World) (h : Recs w b off n acc) (hn : n ≤ 8) :
    Calls Try.prog 37 #[.slice (some ⟨b, off, none⟩) n C, .func (.func 7) #[] #[]] w (BatPost w n acc) := by
  obtain ⟨i0, hi, hz0, hz1, hz2⟩ := info_parts info_u8
  obtain ⟨W0, hmk0, hown0, hg0⟩ := run_make_own (P := Try.prog) w w.heap.size 31 5 i0 (.int .u8 0) 1 Try.underlying31 hi hz0 hz1 .i64 .i64 (n * 128) (by rw [hz2]; omega) (by unfold maxLen; omega) (Nat.le_refl _)
  have hmk : (Instr.makeSlice 31 (.int .i64 0) (.int .i64 ((n : Int) * 128))).run Try.prog w = .ok (.slice (some ⟨w.heap.size, 0, none⟩) 0 (n * 128)) W0 := by
    rw [show ((n * 128 : Nat) : Int) = (n : Int) * 128 by omega] at hmk0
    exact hmk0
  have ST : Hid (batRel w n acc (.slice (some ⟨w.heap.size, 0, none⟩) 0 (n * 128)) (.int .i64 0) W0) := ⟨0, by omega, rfl, by simpa [batCells] using hown0, (Below.refl _ _).grown hg0 (Nat.le_refl _) (fun k hk => by cases hk)⟩
  have HR : Hid (Recs w b off n acc) := h
  have hb := h.2.2
  have m1 : wrap64 ((n : Int) * 128) = (n : Int) * 128 := by unfold wrap64; omega
  have m2 : IntKind.i64.wrap ((n : Int) * 128) = (n : Int) * 128 := by rw [IntKind.wrap_i64]; omega
  have m3 : ¬ (8 : Int) < n := by omega
  clear h hmk0 hown0 hg0
  go_enter Try.func37, Try.ntmps37
  go_wp2_with fail
  go_loopw [6, 18] (fun v i wr => batRel w n acc v i wr) (fun _ i _ => n - (intOf i).toNat)
  case atStart => exact ST.out
  case round =>
    obtain ⟨k, hk, rfl, hown, bel⟩ := hrel
    clear ST hmk
    have BE : Hid (Below w.heap.size w wr) := bel
    by_cases hlt : k < n
    · have i1 : (k : Int) < n := by omega
      have rng : wr.rangeAt b (off + k * 19) (acc k).cells := fun j v hj => (bel.cell (p := ⟨b, off + k * 19 + j, none⟩) hb).trans (HR.out.1 k hlt j v hj)
      clear bel
      go_wp2_with (first
        | (refine wpList_load_mid (P := Try.prog) rfl 30 (.tmp 20) rfl b (off + k * 19) rfl (acc k).cells _ rng Try.underlying30 rfl (by kernel_rfl) ?_)
        | (refine wpList_store_rec rfl 30 (.tmp 8) _ rfl wr.heap.size 0 zero19 (acc k).cells rfl rfl (Rec19.new wr 30 zero19) rfl (by kernel_rfl) (acc k).cells_one ?_; intro W2 R2 K2)
        | (refine wpList_load_rec rfl 30 (.tmp 8) rfl wr.heap.size 0 (acc k).cells rfl _ Try.underlying30 rfl (by kernel_rfl) R2 ?_))
      refine (tbytes_any (acc k) _ (HR.out.2.1 k hlt)).mono ?_
      rintro e w3 ⟨b3, rfl, hb3, R3, K3⟩
      have D2 : Below wr.heap.size wr W2 := ((Below.refl _ _).alloc (Nat.le_refl _) _).trans (K2.below (Nat.le_refl _) (by simp))
      have D3 : Below wr.heap.size wr w3 := D2.trans (K3.mono D2.size)
      have own3 := own_below hown D3
      clear K2 K3 R2 D2 rng
      go_wp2_with (at_builtin; refine wpList_append_own _ rfl _ _ 31 rfl w.heap.size 5 i0 (.int .u8 0) 1 1 Try.underlying31 hi hz0 hz1 hz2 rfl (by decide) _ _ _ rfl own3 ⟨b3, 0, none⟩ 128 128 ((List.range 128).map fun j => .int .u8 ((acc k).img j)) rfl (by simp) ?c1 ?c2 ?c3 ?c4 ?c5 ?_)
      case c1 =>
        intro j u hj
        rw [List.getElem?_map] at hj
        rw [Addr.add_mid, Nat.zero_add]
        by_cases g : j < 128
        · rw [List.getElem?_range g] at hj
          rw [R3.1 j g]
          exact hj
        · rw [List.getElem?_eq_none (by simp; omega)] at hj
          cases hj
      case c2 => intro u hu; rw [List.mem_map] at hu; obtain ⟨j, _, rfl⟩ := hu; rfl
      case c3 => unfold maxLen; omega
      case c4 => omega
      case c5 => exact Nat.le_trans BE.out.size D3.size
      intro v' w4 hown' hgrow _
      have RR : Hid (batRel w n acc v' (.int .i64 ((k : Int) + 1)) w4) := bat_rel1 w wr w3 w4 n k acc _ v' hlt hown D3 BE.out hown' hgrow
      clear hown' hgrow hown own3 D3 R3
      go_wp2_with fail
      go_roundw
      case rel => exact RR.out
      case measure => simp [intOf]; omega
    · obtain rfl : k = n := by omega
      go_wp2_with fail
      exact bodyPost_ret (by simp [results, Try.results37, go_sem]) rfl ⟨_, rfl, hown, BE.out⟩
theorem batchA_long (a : Option Addr) (n C : Nat) (f : Value) (w : World) (hn : 8 < n) :
    Calls Try.prog 36 #[.slice a n C, f] w fun e w' => e = .returned (.tuple #[.slice none 0 0, .int .i64 3]) ∧ Below w.heap.size w w' := by
  have e1 : (8 : Int) < n := by omega
  go_enter Try.func36, Try.ntmps36
  go_wp2_with fail
  go_ret2
  exact ⟨rfl, Below.refl _ _⟩
set_option maxRecDepth 100000 in
set_option maxHeartbeats 1000000 in
theorem batchA_none (a : Option Addr) (C : Nat) (acc : Nat → Fld) (w : World) :
    Calls Try.prog 36 #[.slice a 0 C, .func (.func 6) #[] #[]] w (BatPost w 0 acc) := by
  obtain ⟨i0, hi, hz0, hz1, hz2⟩ := info_parts info_u8
  obtain ⟨W0, hmk0, hown0, hg0⟩ := run_make_own (P := Try.prog) w w.heap.size 31 5 i0 (.int .u8 0) 1 Try.underlying31 hi hz0 hz1 .i64 .i64 0 (by rw [hz2]; omega) (by unfold maxLen; omega) (Nat.le_refl _)
  have hmk : (Instr.makeSlice 31 (.int .i64 0) (.int .i64 0)).run Try.prog w = .ok (.slice (some ⟨w.heap.size, 0, none⟩) 0 0) W0 := hmk0
  have ST : Hid (W0.ownsRow w.heap.size 5 1 (.slice (some ⟨w.heap.size, 0, none⟩) 0 0) (0 * 128) (batCells acc 0) ∧ Below w.heap.size w W0) := ⟨by simpa [batCells] using hown0, (Below.refl _ _).grown hg0 (Nat.le_refl _) (fun k hk => by cases hk)⟩
  clear hmk0 hown0 hg0
  go_enter Try.func36, Try.ntmps36
  go_wp2_with fail
  refine wp_loop_rounds 1 ?_
  rw [rounds_succ]
  go_wp2_with fail
  exact bodyPost_ret (by simp [results, Try.results36, go_sem]) rfl ⟨_, rfl, ST.out.1, ST.out.2⟩
theorem AccountsBytes_ok (a : Option Addr) (n C : Nat) (acc : Nat → Fld) (w : World) (h : RArg w a n acc) (hn : n ≤ 8) :
    Calls Try.prog 14 #[.slice a n C] w (BatPost w n acc) := by
  have main : Calls Try.prog 36 #[.slice a n C, .func (.func 6) #[] #[]] w (BatPost w n acc) := by
    by_cases h0 : n = 0
    · subst h0
      exact batchA_none a C acc w
    · rcases h with h | ⟨b, off, rfl, h⟩
      · exact absurd h h0
      · exact batchA_ok b off n C acc w h hn
  have M : Hid (Calls Try.prog 36 #[.slice a n C, .func (.func 6) #[] #[]] w (BatPost w n acc)) := main
  clear main h
  go_enter Try.func14, Try.ntmps14
  go_wp2_with fail
  refine M.out.mono ?_
  rintro e w1 ⟨v, rfl, h1, h2⟩
  go_wp2_with fail
  exact bodyPost_ret (v := .tuple #[v, .int .i64 0]) (by simp [results, Try.results14]) rfl ⟨v, rfl, h1, h2⟩
theorem AccountsBytes_long (a : Option Addr) (n C : Nat) (w : World) (hn : 8 < n) :
    Calls Try.prog 14 #[.slice a n C] w fun e w' => e = .returned (.tuple #[.slice none 0 0, .int .i64 3]) ∧ Below w.heap.size w w' := by
  go_enter Try.func14, Try.ntmps14
  go_wp2_with fail
  refine (batchA_long a n C _ w hn).mono ?_
  rintro e w1 ⟨rfl, h2⟩
  go_wp2_with fail
  exact bodyPost_ret (v := .tuple #[.slice none 0 0, .int .i64 3]) (by simp [results, Try.results14]) rfl ⟨rfl, h2⟩
theorem batchT_long (a : Option Addr) (n C : Nat) (f : Value) (w : World) (hn : 8 < n) :
    Calls Try.prog 37 #[.slice a n C, f] w fun e w' => e = .returned (.tuple #[.slice none 0 0, .int .i64 3]) ∧ Below w.heap.size w w' := by
  have e1 : (8 : Int) < n := by omega
  go_enter Try.func37, Try.ntmps37
  go_wp2_with fail
  go_ret2
  exact ⟨rfl, Below.refl _ _⟩
set_option maxRecDepth 100000 in
set_option maxHeartbeats 1000000 in
theorem batchT_none (a : Option Addr) (C : Nat) (acc : Nat → Fld) (w : World) :
    Calls Try.prog 37 #[.slice a 0 C, .func (.func 7) #[] #[]] w (BatPost w 0 acc) := by
  obtain ⟨i0, hi, hz0, hz1, hz2⟩ := info_parts info_u8
  obtain ⟨W0, hmk0, hown0, hg0⟩ := run_make_own (P := Try.prog) w w.heap.size 31 5 i0 (.int .u8 0) 1 Try.underlying31 hi hz0 hz1 .i64 .i64 0 (by rw [hz2]; omega) (by unfold maxLen; omega) (Nat.le_refl _)
  have hmk : (Instr.makeSlice 31 (.int .i64 0) (.int .i64 0)).run Try.prog w = .ok (.slice (some ⟨w.heap.size, 0, none⟩) 0 0) W0 := hmk0
  have ST : Hid (W0.ownsRow w.heap.size 5 1 (.slice (some ⟨w.heap.size, 0, none⟩) 0 0) (0 * 128) (batCells acc 0) ∧ Below w.heap.size w W0) := ⟨by simpa [batCells] using hown0, (Below.refl _ _).grown hg0 (Nat.le_refl _) (fun k hk => by cases hk)⟩
  clear hmk0 hown0 hg0
  go_enter Try.func37, Try.ntmps37
  go_wp2_with fail
  refine wp_loop_rounds 1 ?_
  rw [rounds_succ]
  go_wp2_with fail
  exact bodyPost_ret (by simp [results, Try.results37, go_sem]) rfl ⟨_, rfl, ST.out.1, ST.out.2⟩
theorem TransfersBytes_ok (a : Option Addr) (n C : Nat) (acc : Nat → Fld) (w : World) (h : RArg w a n acc) (hn : n ≤ 8) :
    Calls Try.prog 16 #[.slice a n C] w (BatPost w n acc) := by
  have main : Calls Try.prog 37 #[.slice a n C, .func (.func 7) #[] #[]] w (BatPost w n acc) := by
    by_cases h0 : n = 0
    · subst h0
      exact batchT_none a C acc w
    · rcases h with h | ⟨b, off, rfl, h⟩
      · exact absurd h h0
      · exact batchT_ok b off n C acc w h hn
  have M : Hid (Calls Try.prog 37 #[.slice a n C, .func (.func 7) #[] #[]] w (BatPost w n acc)) := main
  clear main h
  go_enter Try.func16, Try.ntmps16
  go_wp2_with fail
  refine M.out.mono ?_
  rintro e w1 ⟨v, rfl, h1, h2⟩
  go_wp2_with fail
  exact bodyPost_ret (v := .tuple #[v, .int .i64 0]) (by simp [results, Try.results16]) rfl ⟨v, rfl, h1, h2⟩
theorem TransfersBytes_long (a : Option Addr) (n C : Nat) (w : World) (hn : 8 < n) :
    Calls Try.prog 16 #[.slice a n C] w fun e w' => e = .returned (.tuple #[.slice none 0 0, .int .i64 3]) ∧ Below w.heap.size w w' := by
  go_enter Try.func16, Try.ntmps16
  go_wp2_with fail
  refine (batchT_long a n C _ w hn).mono ?_
  rintro e w1 ⟨rfl, h2⟩
  go_wp2_with fail
  exact bodyPost_ret (v := .tuple #[.slice none 0 0, .int .i64 3]) (by simp [results, Try.results16]) rfl ⟨rfl, h2⟩
end Go.Proofs.Ytlcnhmlcmedonaa
