/-
  Walks, not a claim by itself: AccountsBytes and TransfersBytes, with the room that their answers have. By the verifier.
-/
import Derived.Test.YtlcnhmlcmedonaaXTop
import Derived.Test.YtlcnhmlcmedonaaBApart3
namespace Go.Proofs.Ytlcnhmlcmedonaa
open Go.RowKit
theorem rarg_wf {w : World} {a : Option Addr} {n : Nat} {acc : Nat → Fld} (h : RArg w a n acc) : ∀ i, i < n → (acc i).wf := by
  rcases h with h | ⟨b, off, rfl, h⟩
  · intro i hi; omega
  · exact h.2.1
/-- append where there is room. -/
theorem app_room (ty : TypeId) (W : World) (base n m C g cap : Nat) (a : Option Addr) (F G : Nat → Int) (ho : Own W base (.slice (some ⟨g, 0, none⟩) n cap) n F) (hm0 : 0 < m) (hA : Arg W a m G) (hroom : n + m ≤ cap) :
    ∃ W', (Builtin.append_ #[31, 31] ty #[.slice (some ⟨g, 0, none⟩) n cap, .slice a m C]).run Try.prog W = .ok (.slice (some ⟨g, 0, none⟩) (n + m) cap) W' ∧ Own W' base (.slice (some ⟨g, 0, none⟩) (n + m) cap) (n + m) (cat F n G) ∧ But g W W' := by
  obtain ⟨i0, hi, hz0, hz1, hz2⟩ := info_parts info_u8
  have hlen : (cl .u8 n F ++ cl .u8 m G).length = n + m := by simp [cl_len]
  rcases hA with ⟨h, _⟩ | ⟨_, b, off, rfl, hl⟩
  · omega
  have hnews : ∀ j u, (cl .u8 m G)[j]? = some u → W.cell? ((⟨b, off, none⟩ : Addr).add j) = some u := fun j u hj => by obtain ⟨h, rfl⟩ := cl_at' hj; rw [Addr.add_mid]; exact hl.1 j h
  rcases ho.2 with ⟨h, _⟩ | ⟨g', cap', cur, hv, hbg, hg, hnc, hcm, hcs, htake⟩
  · cases h
  injection hv with hv _ hc
  injection hv with hv
  injection hv with hv
  subst hv hc
  have hr := run_append_room (P := Try.prog) W 31 ty 5 i0 Try.underlying31 hi g n cap cur hg ⟨b, off, none⟩ m C (cl .u8 m G) (by rw [cl_len, hz1, Nat.mul_one]) hnews (cl_one _ _ _) hroom (by rw [cl_len, hcs, hz1]; omega)
  refine ⟨_, hr, ⟨by simp [cl_len], .inr ⟨g, cap, _, rfl, hbg, setRow_heap W g cur _ 5 _ hg, hroom, hcm, ?_, ?_⟩⟩, ?_⟩
  · simp only [List.size_toArray, List.length_append, List.length_take, List.length_drop, Array.length_toList, cl_len, hz1]
    omega
  · rw [Nat.mul_one] at htake ⊢
    rw [hz1, Nat.mul_one, htake, ← cl_cat, ← hlen]
    exact List.take_left
  · exact ⟨rfl, rfl, rfl, by simp, fun k _ hk => setRow_other W g k _ (fun e => hk e)⟩
theorem Own.irow {w : World} {base g n : Nat} {F : Nat → Int} (h : Own w base (.slice (some ⟨g, 0, none⟩) n n) n F) : IRow w g .u8 n F := by
  rcases h.2 with ⟨h, _⟩ | ⟨g', cap', cur, hv, hbg, hg, hnc, _, hsz, htake⟩
  · cases h
  injection hv with hv _ hc
  injection hv with hv
  injection hv with hv
  subst hv hc
  refine ⟨fun j hj => ?_, fun j => by simp [World.frozen?, hg], (Array.getElem?_eq_some_iff.1 hg).1⟩
  rw [cell_of_row w g j cur 5 (0, 0) hg]
  have := cl_at .u8 n F j hj
  rw [← htake, List.getElem?_take, if_pos (by omega)] at this
  simpa using this
/-- What holds at the head of the loop. -/
def roomRel (w : World) (n : Nat) (acc : Nat → Fld) (v i : Value) (wr : World) : Prop := ∃ k : Nat, k ≤ n ∧ i = .int .i64 k ∧ v = .slice (some ⟨w.heap.size, 0, none⟩) (k * 128) (n * 128) ∧ Own wr w.heap.size (.slice (some ⟨w.heap.size, 0, none⟩) (k * 128) (n * 128)) (k * 128) (batF acc) ∧ Below w.heap.size w wr
theorem room_step (w wr u w1 : World) (n k : Nat) (acc : Nat → Fld) (hk : k < n) (hu : Below wr.heap.size wr u) (bel : Below w.heap.size w wr)
    (ho : Own w1 w.heap.size (.slice (some ⟨w.heap.size, 0, none⟩) (k * 128 + 128) (n * 128)) (k * 128 + 128) (cat (batF acc) (k * 128) (acc k).img)) (hB : But w.heap.size u w1) :
    roomRel w n acc (.slice (some ⟨w.heap.size, 0, none⟩) (k * 128 + 128) (n * 128)) (.int .i64 ((k : Int) + 1)) w1 := by
  have e : k * 128 + 128 = (k + 1) * 128 := by omega
  have ho' := ho.congr (G := batF acc) (fun j hj => by
    unfold cat
    by_cases q : j < k * 128
    · rw [if_pos q]
    · rw [if_neg q]
      unfold batF
      rw [show j / 128 = k by omega, show j % 128 = j - k * 128 by omega])
  rw [e] at ho' ⊢
  have h2 := bel.size
  have h3 := hu.size
  exact ⟨k + 1, by omega, by go_num, rfl, ho', bel.trans ((hu.mono h2).trans (hB.below (Nat.le_refl _) (by omega)))⟩
/-- What is answered: bytes in a block of just that size. -/
def RoomPost (w : World) (n : Nat) (acc : Nat → Fld) (e : Ending) (w' : World) : Prop := e = .returned (.tuple #[.slice (some ⟨w.heap.size, 0, none⟩) (n * 128) (n * 128), .int .i64 0]) ∧ IRow w' w.heap.size .u8 (n * 128) (batF acc) ∧ Below w.heap.size w w'
set_option maxRecDepth 100000 in
set_option maxHeartbeats 2000000 in
theorem roomAccount (a : Option Addr) (n C : Nat) (acc : Nat → Fld) (w : World) (h : RArg w a n acc) (hn : n ≤ 8) :
    Calls Try.prog 36 #[.slice a n C, .func (.func 6) #[] #[]] w (RoomPost w n acc) := by
  obtain ⟨i0, hi, hz0, hz1, hz2⟩ := info_parts info_u8
  obtain ⟨W0, hmk0, hown0, hg0⟩ := run_make_own (P := Try.prog) w w.heap.size 31 5 i0 (.int .u8 0) 1 Try.underlying31 hi hz0 hz1 .i64 .i64 (n * 128) (by rw [hz2]; omega) (by unfold maxLen; omega) (Nat.le_refl _)
  have hmk : (Instr.makeSlice 31 (.int .i64 0) (.int .i64 ((n : Int) * 128))).run Try.prog w = .ok (.slice (some ⟨w.heap.size, 0, none⟩) 0 (n * 128)) W0 := by
    rw [show ((n * 128 : Nat) : Int) = (n : Int) * 128 by omega] at hmk0
    exact hmk0
  have ST : Hid (roomRel w n acc (.slice (some ⟨w.heap.size, 0, none⟩) 0 (n * 128)) (.int .i64 0) W0) := ⟨0, by omega, rfl, by rw [Nat.zero_mul], by rw [Nat.zero_mul]; exact hown0, (Below.refl _ _).grown hg0 (Nat.le_refl _) (fun k hk => by cases hk)⟩
  have HR : Hid (RArg w a n acc) := h
  have m1 : wrap64 ((n : Int) * 128) = (n : Int) * 128 := by unfold wrap64; omega
  have m2 : IntKind.i64.wrap ((n : Int) * 128) = (n : Int) * 128 := by rw [IntKind.wrap_i64]; omega
  have m3 : ¬ (8 : Int) < n := by omega
  clear h hmk0 hown0 hg0
  go_enter Try.func36, Try.ntmps36
  go_wp2_with fail
  go_loopw [6, 18] (fun v i wr => roomRel w n acc v i wr) (fun _ i _ => n - (intOf i).toNat)
  case atStart => exact ST.out
  case round =>
    obtain ⟨k, hk, rfl, rfl, hown, bel⟩ := hrel
    clear ST hmk
    have BE : Hid (Below w.heap.size w wr) := bel
    have OW : Hid (Own wr w.heap.size (.slice (some ⟨w.heap.size, 0, none⟩) (k * 128) (n * 128)) (k * 128) (batF acc)) := hown
    clear hown
    by_cases hlt : k < n
    · have i1 : (k : Int) < n := by omega
      rcases HR.out with h0 | ⟨b, off, rfl, R⟩
      · omega
      have hb := R.2.2
      have rng : wr.rangeAt b (off + k * 19) (acc k).cells := fun j v hj => (bel.cell (p := ⟨b, off + k * 19 + j, none⟩) hb).trans (R.1 k hlt j v hj)
      clear bel R
      go_wp2_with (first
        | (refine wpList_load_mid (P := Try.prog) rfl 28 (.tmp 20) rfl b (off + k * 19) rfl (acc k).cells _ rng Try.underlying28 rfl (by kernel_rfl) ?_)
        | (refine wpList_store_rec rfl 28 (.tmp 8) _ rfl wr.heap.size 0 zero19 (acc k).cells rfl rfl (Rec19.new wr 28 zero19) rfl (by kernel_rfl) (acc k).cells_one ?_; intro W2 R2 K2)
        | (refine wpList_load_rec rfl 28 (.tmp 8) rfl wr.heap.size 0 (acc k).cells rfl _ Try.underlying28 rfl (by kernel_rfl) R2 ?_))
      refine (abytes_any (acc k) _ (rarg_wf HR.out k hlt)).mono ?_
      rintro e w3 ⟨b3, rfl, hb3, R3, K3⟩
      have D2 : Below wr.heap.size wr W2 := ((Below.refl _ _).alloc (Nat.le_refl _) _).trans (K2.below (Nat.le_refl _) (by simp))
      have D3 : Below wr.heap.size wr w3 := D2.trans (K3.mono D2.size)
      have l3 : Lies w3 b3 0 128 (acc k).img := ⟨fun j hj => by rw [Nat.zero_add]; exact R3.1 j hj, fun j _ => ximg_byte _ j, R3.2.2⟩
      obtain ⟨w4, hr4, hO4, hB4⟩ := app_room 31 w3 w.heap.size (k * 128) 128 128 w.heap.size (n * 128) (some ⟨b3, 0, none⟩) (batF acc) (acc k).img (OW.out.below D3) (by omega) (Arg.of l3) (by omega)
      have RR : Hid (roomRel w n acc (.slice (some ⟨w.heap.size, 0, none⟩) (k * 128 + 128) (n * 128)) (.int .i64 ((k : Int) + 1)) w4) := room_step w wr w3 w4 n k acc hlt D3 BE.out hO4 hB4
      clear K2 K3 R2 D2 rng D3 R3 l3 hO4 hB4
      go_wp2_with (at_builtin; refine wpList_append_go rfl _ _ 31 31 rfl _ _ rfl rfl hr4 ?_)
      go_roundw
      case rel => exact RR.out
      case measure => simp [intOf]; omega
    · obtain rfl : k = n := by omega
      go_wp2_with fail
      exact bodyPost_ret (by simp [results, Try.results36, go_sem]) rfl ⟨rfl, OW.out.irow, BE.out⟩
set_option maxRecDepth 100000 in
set_option maxHeartbeats 2000000 in
theorem roomTransfer (a : Option Addr) (n C : Nat) (acc : Nat → Fld) (w : World) (h : RArg w a n acc) (hn : n ≤ 8) :
    Calls Try.prog 37 #[.slice a n C, .func (.func 7) #[] #[]] w (RoomPost w n acc) := by
  obtain ⟨i0, hi, hz0, hz1, hz2⟩ := info_parts info_u8
  obtain ⟨W0, hmk0, hown0, hg0⟩ := run_make_own (P := Try.prog) w w.heap.size 31 5 i0 (.int .u8 0) 1 Try.underlying31 hi hz0 hz1 .i64 .i64 (n * 128) (by rw [hz2]; omega) (by unfold maxLen; omega) (Nat.le_refl _)
  have hmk : (Instr.makeSlice 31 (.int .i64 0) (.int .i64 ((n : Int) * 128))).run Try.prog w = .ok (.slice (some ⟨w.heap.size, 0, none⟩) 0 (n * 128)) W0 := by
    rw [show ((n * 128 : Nat) : Int) = (n : Int) * 128 by omega] at hmk0
    exact hmk0
  have ST : Hid (roomRel w n acc (.slice (some ⟨w.heap.size, 0, none⟩) 0 (n * 128)) (.int .i64 0) W0) := ⟨0, by omega, rfl, by rw [Nat.zero_mul], by rw [Nat.zero_mul]; exact hown0, (Below.refl _ _).grown hg0 (Nat.le_refl _) (fun k hk => by cases hk)⟩
  have HR : Hid (RArg w a n acc) := h
  have m1 : wrap64 ((n : Int) * 128) = (n : Int) * 128 := by unfold wrap64; omega
  have m2 : IntKind.i64.wrap ((n : Int) * 128) = (n : Int) * 128 := by rw [IntKind.wrap_i64]; omega
  have m3 : ¬ (8 : Int) < n := by omega
  clear h hmk0 hown0 hg0
  go_enter Try.func37, Try.ntmps37
  go_wp2_with fail
  go_loopw [6, 18] (fun v i wr => roomRel w n acc v i wr) (fun _ i _ => n - (intOf i).toNat)
  case atStart => exact ST.out
  case round =>
    obtain ⟨k, hk, rfl, rfl, hown, bel⟩ := hrel
    clear ST hmk
    have BE : Hid (Below w.heap.size w wr) := bel
    have OW : Hid (Own wr w.heap.size (.slice (some ⟨w.heap.size, 0, none⟩) (k * 128) (n * 128)) (k * 128) (batF acc)) := hown
    clear hown
    by_cases hlt : k < n
    · have i1 : (k : Int) < n := by omega
      rcases HR.out with h0 | ⟨b, off, rfl, R⟩
      · omega
      have hb := R.2.2
      have rng : wr.rangeAt b (off + k * 19) (acc k).cells := fun j v hj => (bel.cell (p := ⟨b, off + k * 19 + j, none⟩) hb).trans (R.1 k hlt j v hj)
      clear bel R
      go_wp2_with (first
        | (refine wpList_load_mid (P := Try.prog) rfl 30 (.tmp 20) rfl b (off + k * 19) rfl (acc k).cells _ rng Try.underlying30 rfl (by kernel_rfl) ?_)
        | (refine wpList_store_rec rfl 30 (.tmp 8) _ rfl wr.heap.size 0 zero19 (acc k).cells rfl rfl (Rec19.new wr 30 zero19) rfl (by kernel_rfl) (acc k).cells_one ?_; intro W2 R2 K2)
        | (refine wpList_load_rec rfl 30 (.tmp 8) rfl wr.heap.size 0 (acc k).cells rfl _ Try.underlying30 rfl (by kernel_rfl) R2 ?_))
      refine (tbytes_any (acc k) _ (rarg_wf HR.out k hlt)).mono ?_
      rintro e w3 ⟨b3, rfl, hb3, R3, K3⟩
      have D2 : Below wr.heap.size wr W2 := ((Below.refl _ _).alloc (Nat.le_refl _) _).trans (K2.below (Nat.le_refl _) (by simp))
      have D3 : Below wr.heap.size wr w3 := D2.trans (K3.mono D2.size)
      have l3 : Lies w3 b3 0 128 (acc k).img := ⟨fun j hj => by rw [Nat.zero_add]; exact R3.1 j hj, fun j _ => ximg_byte _ j, R3.2.2⟩
      obtain ⟨w4, hr4, hO4, hB4⟩ := app_room 31 w3 w.heap.size (k * 128) 128 128 w.heap.size (n * 128) (some ⟨b3, 0, none⟩) (batF acc) (acc k).img (OW.out.below D3) (by omega) (Arg.of l3) (by omega)
      have RR : Hid (roomRel w n acc (.slice (some ⟨w.heap.size, 0, none⟩) (k * 128 + 128) (n * 128)) (.int .i64 ((k : Int) + 1)) w4) := room_step w wr w3 w4 n k acc hlt D3 BE.out hO4 hB4
      clear K2 K3 R2 D2 rng D3 R3 l3 hO4 hB4
      go_wp2_with (at_builtin; refine wpList_append_go rfl _ _ 31 31 rfl _ _ rfl rfl hr4 ?_)
      go_roundw
      case rel => exact RR.out
      case measure => simp [intOf]; omega
    · obtain rfl : k = n := by omega
      go_wp2_with fail
      exact bodyPost_ret (by simp [results, Try.results37, go_sem]) rfl ⟨rfl, OW.out.irow, BE.out⟩
/-- The error of a batch of n records, and how many bytes it has. -/
def bcode (n : Nat) : Int := if n ≤ 8 then 0 else 3
def bsize (n : Nat) : Nat := if n ≤ 8 then n * 128 else 0
/-- What AccountsBytes and TransfersBytes answer. -/
def AbPost (w : World) (n : Nat) (acc : Nat → Fld) (e : Ending) (w' : World) : Prop := ∃ a, e = .returned (.tuple #[.slice a (bsize n) (bsize n), .int .i64 (bcode n)]) ∧ Lst.ok w.heap.size w' ⟨a, bsize n, bsize n⟩ (batF acc) ∧ (∀ p, a = some p → p.block < w'.heap.size) ∧ Below w.heap.size w w'
theorem Accounts_room (a : Option Addr) (n C : Nat) (acc : Nat → Fld) (w : World) (h : RArg w a n acc) :
    Calls Try.prog 14 #[.slice a n C] w (AbPost w n acc) := by
  by_cases hn : n ≤ 8
  · have e1 : bcode n = 0 := if_pos hn
    have e2 : bsize n = n * 128 := if_pos hn
    have M : Hid (Calls Try.prog 36 #[.slice a n C, .func (.func 6) #[] #[]] w (RoomPost w n acc)) := roomAccount a n C acc w h hn
    unfold AbPost
    rw [e1, e2]
    clear h e1 e2
    go_enter Try.func14, Try.ntmps14
    go_wp2_with fail
    refine M.out.mono ?_
    rintro e w1 ⟨rfl, h1, h2⟩
    go_wp2_with fail
    exact bodyPost_ret (v := .tuple #[.slice (some ⟨w.heap.size, 0, none⟩) (n * 128) (n * 128), .int .i64 0]) (by simp [results, Try.results14]) rfl ⟨_, rfl, ⟨Nat.le_refl _, by show n * 128 ≤ 1000000; omega, fun j _ => ximg_byte _ _, .inr ⟨_, rfl, Nat.le_refl _, h1⟩⟩, fun p hp => by cases hp; exact h1.2.2, h2⟩
  · have e1 : bcode n = 3 := if_neg hn
    have e2 : bsize n = 0 := if_neg hn
    unfold AbPost
    rw [e1, e2]
    refine (AccountsBytes_long a n C w (by omega)).mono ?_
    rintro e w' ⟨rfl, hB⟩
    exact ⟨none, rfl, ⟨Nat.le_refl _, by show 0 ≤ 1000000; omega, fun j hj => absurd hj (Nat.not_lt_zero _), .inl ⟨rfl, rfl⟩⟩, fun p hp => (by cases hp), hB⟩
theorem Transfers_room (a : Option Addr) (n C : Nat) (acc : Nat → Fld) (w : World) (h : RArg w a n acc) :
    Calls Try.prog 16 #[.slice a n C] w (AbPost w n acc) := by
  by_cases hn : n ≤ 8
  · have e1 : bcode n = 0 := if_pos hn
    have e2 : bsize n = n * 128 := if_pos hn
    have M : Hid (Calls Try.prog 37 #[.slice a n C, .func (.func 7) #[] #[]] w (RoomPost w n acc)) := roomTransfer a n C acc w h hn
    unfold AbPost
    rw [e1, e2]
    clear h e1 e2
    go_enter Try.func16, Try.ntmps16
    go_wp2_with fail
    refine M.out.mono ?_
    rintro e w1 ⟨rfl, h1, h2⟩
    go_wp2_with fail
    exact bodyPost_ret (v := .tuple #[.slice (some ⟨w.heap.size, 0, none⟩) (n * 128) (n * 128), .int .i64 0]) (by simp [results, Try.results16]) rfl ⟨_, rfl, ⟨Nat.le_refl _, by show n * 128 ≤ 1000000; omega, fun j _ => ximg_byte _ _, .inr ⟨_, rfl, Nat.le_refl _, h1⟩⟩, fun p hp => by cases hp; exact h1.2.2, h2⟩
  · have e1 : bcode n = 3 := if_neg hn
    have e2 : bsize n = 0 := if_neg hn
    unfold AbPost
    rw [e1, e2]
    refine (TransfersBytes_long a n C w (by omega)).mono ?_
    rintro e w' ⟨rfl, hB⟩
    exact ⟨none, rfl, ⟨Nat.le_refl _, by show 0 ≤ 1000000; omega, fun j hj => absurd hj (Nat.not_lt_zero _), .inl ⟨rfl, rfl⟩⟩, fun p hp => (by cases hp), hB⟩
end Go.Proofs.Ytlcnhmlcmedonaa
