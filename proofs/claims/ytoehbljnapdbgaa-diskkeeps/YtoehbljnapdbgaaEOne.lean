/-
  Walks, not a claim by itself: the law's helpers on disks: Pick, full, sector, SameInts. By the verifier.
-/
import Derived.Test.YtoehbljnapdbgaaDLoose
import Derived.Test.YtoehbljnapdbgaaDRead
import Derived.Test.YtoehbljnapdbgaaBCopy
namespace Go.Proofs.Ytoehbljnapdbgaa
open Go.RowKit Go.Maps
/-- What Pick answers. -/
def pickV (x : Int) (n : Nat) : Nat := (if x.tmod n < 0 then x.tmod n + n else x.tmod n).toNat
theorem pickV_lt (x : Int) (n : Nat) (h1 : 1 ≤ n) : pickV x n < n := by
  have b1 : x.tmod n < n := Int.tmod_lt_of_pos x (by omega)
  have b2 : -(n : Int) < x.tmod n := by have := Int.lt_tmod_of_pos x (show (0 : Int) < n by omega); omega
  unfold pickV
  split <;> omega
theorem ret_int {k : IntKind} {a b : Int} (h : a = b) : Ending.returned (.int k a) = .returned (.int k b) := by rw [h]
set_option maxHeartbeats 1000000 in
theorem pick_is (x : Int) (n : Nat) (w : World) (h1 : 1 ≤ n) (h2 : n ≤ 1000000) :
    Calls Try.prog 27 #[.int .i64 x, .int .i64 n] w fun e w' => e = .returned (.int .i64 (pickV x n : Nat)) ∧ w' = w := by
  have e1 : ¬ (n : Int) < 1 := by omega
  have e2 : ¬ (n : Int) = 0 := by omega
  have e3 : ¬ n = 0 := by omega
  have b1 : x.tmod n < n := Int.tmod_lt_of_pos x (by omega)
  have b2 : -(n : Int) < x.tmod n := by have := Int.lt_tmod_of_pos x (show (0 : Int) < n by omega); omega
  by_cases h : x.tmod n < 0
  · have w1 : IntKind.i64.wrap (x.tmod n) = x.tmod n := by rw [IntKind.wrap_i64]; omega
    have pv : ((pickV x n : Nat) : Int) = x.tmod n + n := by unfold pickV; rw [if_pos h]; omega
    rw [pv]
    clear pv
    go_enter Try.func27, Try.ntmps27
    go_wp2
    go_ret
    exact ⟨ret_int (by omega), rfl⟩
  · have w1 : IntKind.i64.wrap (x.tmod n) = x.tmod n := by rw [IntKind.wrap_i64]; omega
    have pv : ((pickV x n : Nat) : Int) = x.tmod n := by unfold pickV; rw [if_neg h]; omega
    rw [pv]
    clear pv
    go_enter Try.func27, Try.ntmps27
    go_wp2
    go_ret
    exact ⟨ret_int (by omega), rfl⟩
theorem cl_upd (N j : Nat) (F : Nat → Int) (v : Int) : (cl .u8 N F).set j (.int .u8 v) = cl .u8 N (upd F j v) := by
  refine List.ext_getElem? fun i => ?_
  rw [List.getElem?_set, cl_len]
  by_cases h : i < N
  · rw [cl_at _ _ _ _ h, cl_at _ _ _ _ h]
    unfold upd
    by_cases e : j = i
    · subst e
      rw [if_pos rfl, if_pos h, if_pos rfl]
    · rw [if_neg e, if_neg (fun q => e q.symm)]
  · rw [List.getElem?_eq_none (by rw [cl_len]; omega), List.getElem?_eq_none (by rw [cl_len]; omega)]
    split
    · rw [if_neg (by omega)]
    · rfl
theorem Own.put {w : World} {base g n cap : Nat} {F : Nat → Int} (h : Own w base (.slice (some ⟨g, 0, none⟩) n cap) n F) (j : Nat) (v : Int) : Own (w.setCell ⟨g, j, none⟩ (.int .u8 v)) base (.slice (some ⟨g, 0, none⟩) n cap) n (upd F j v) := by
  have := (World.ownsRow.stored h j (.int .u8 v)).1
  rw [cl_upd] at this
  exact this
theorem zeros_cl (n : Nat) : (zeros n).toList = cl .u8 n (fun _ => 0) := by
  refine List.ext_getElem? fun i => ?_
  by_cases h : i < n
  · rw [cl_at _ _ _ _ h, Array.getElem?_toList, zeros_at n i h]
  · have hz : (zeros n).toList.length = n := by rw [Array.length_toList]; exact size_madeCells _ _
    rw [List.getElem?_eq_none (by rw [hz]; omega), List.getElem?_eq_none (by rw [cl_len]; omega)]
theorem Own.made (w : World) (n : Nat) (hn : n ≤ 1000000) : Own (w.alloc (.cells (zeros n) 5)) w.heap.size (.slice (some ⟨w.heap.size, 0, none⟩) n n) n (fun _ => 0) := by
  have := Own.lit w w.heap.size n (fun _ => 0) (Nat.le_refl _) hn
  rw [← zeros_cl, Array.toArray_toList] at this
  exact this
/-- Sectors of one byte. -/
def FullPost (w : World) (n : Nat) (v : Int) (e : Ending) (w' : World) : Prop := e = .returned (.slice (some ⟨w.heap.size, 0, none⟩) (n * 256) (n * 256)) ∧ Own w' w.heap.size (.slice (some ⟨w.heap.size, 0, none⟩) (n * 256) (n * 256)) (n * 256) (fun _ => v) ∧ Below w.heap.size w w'
/-- The first k are v. -/
def firstF (k : Nat) (v : Int) (j : Nat) : Int := if j < k then v else 0
theorem firstF_step (k : Nat) (v : Int) : upd (firstF k v) k v = firstF (k + 1) v := by
  funext j
  unfold upd firstF
  by_cases h : j = k
  · subst h; rw [if_pos rfl, if_pos (by omega)]
  · rw [if_neg h]
    by_cases g : j < k
    · rw [if_pos g, if_pos (by omega)]
    · rw [if_neg g, if_neg (by omega)]
def fullRel (w : World) (N : Nat) (v : Int) (i : Value) (wr : World) : Prop := ∃ k : Nat, k ≤ N ∧ i = .int .i64 k ∧ Own wr w.heap.size (.slice (some ⟨w.heap.size, 0, none⟩) N N) N (firstF k v) ∧ Below w.heap.size w wr
set_option maxRecDepth 100000 in
set_option maxHeartbeats 1000000 in
theorem full_any (x : Int) (v : Int) (w : World) : Calls Try.prog 31 #[.int .i64 x, .int .u8 v] w (FullPost w (pickV x 6) v) := by
  have hn := pickV_lt x 6 (by omega)
  have PK : Hid (∀ w, Calls Try.prog 27 #[.int .i64 x, .int .i64 6] w fun e w' => e = .returned (.int .i64 (pickV x 6 : Nat)) ∧ w' = w) := fun w => pick_is x 6 w (by omega) (by omega)
  obtain ⟨n, hnn⟩ : ∃ n, pickV x 6 = n := ⟨_, rfl⟩
  rw [hnn] at PK hn ⊢
  clear hnn
  have hmk0 := make_bytes (n * 256) (by omega) w
  have hmk : (Instr.makeSlice 26 (.int .i64 ((n : Int) * 256)) (.int .i64 ((n : Int) * 256))).run Try.prog w = .ok (.slice (some ⟨w.heap.size, 0, none⟩) (n * 256) (n * 256)) (w.alloc (.cells (zeros (n * 256)) 5)) := by
    rw [show ((n * 256 : Nat) : Int) = (n : Int) * 256 by omega] at hmk0
    exact hmk0
  clear hmk0
  have ST : Hid (fullRel w (n * 256) v (.int .i64 0) (w.alloc (.cells (zeros (n * 256)) 5))) := ⟨0, by omega, rfl, (Own.made w (n * 256) (by omega)).congr (fun j _ => by unfold firstF; rw [if_neg (by omega)]), (Below.refl _ _).alloc (Nat.le_refl _) _⟩
  have m1 : wrap64 ((n : Int) * 256) = (n : Int) * 256 := by unfold wrap64; omega
  have m2 : IntKind.i64.wrap ((n : Int) * 256) = (n : Int) * 256 := by rw [IntKind.wrap_i64]; omega
  go_enter Try.func31, Try.ntmps31
  go_wp2_with (go_at_call 27; refine (PK.out _).mono ?_; rintro e w1 ⟨rfl, rfl⟩)
  go_loopw [6] (fun i wr => fullRel w1 (n * 256) v i wr) (fun i _ => n * 256 - (RowKit.intOf i).toNat)
  case atStart => exact ST.out
  case round =>
    obtain ⟨k, hk, rfl, hR, hB⟩ := hrel
    clear ST hmk
    have RR : Hid (Own wr w1.heap.size (.slice (some ⟨w1.heap.size, 0, none⟩) (n * 256) (n * 256)) (n * 256) (firstF k v)) := hR
    have hR := hR.irow
    have BE : Hid (Below w1.heap.size w1 wr) := hB
    clear hB
    by_cases hlt : k < n * 256
    · have c := hR.1 k hlt
      have fr := hR.2.1 k
      clear hR
      have i0 : (k : Int) < (n : Int) * 256 := by omega
      have i2 : (k : Int) < ((n * 256 : Nat) : Int) := by omega
      have i1 : (0 : Int) ≤ (k : Int) := by omega
      go_wp2_with fail
      go_roundw
      case rel => exact ⟨k + 1, by omega, by go_num, by rw [← firstF_step]; exact RR.out.put k _, BE.out.setCell (Nat.le_refl _) _⟩
      case measure => simp [RowKit.intOf]; omega
    · obtain rfl : k = n * 256 := by omega
      clear hR
      have PP : Hid (FullPost w1 n v (.returned (.slice (some ⟨w1.heap.size, 0, none⟩) (n * 256) (n * 256))) wr) := ⟨rfl, RR.out.congr (fun j hj => by unfold firstF; rw [if_pos hj]), BE.out⟩
      clear RR BE hk hlt
      go_wp2_with fail
      go_ret
      exact PP.out
theorem sector_any (v : Int) (w : World) : Calls Try.prog 24 #[.int .u8 v] w (FullPost w 1 v) := by
  have FA : Hid (∀ w, Calls Try.prog 31 #[.int .i64 1, .int .u8 v] w (FullPost w 1 v)) := fun w => full_any 1 v w
  go_enter Try.func24, Try.ntmps24
  go_wp2_with fail
  refine (FA.out _).mono ?_
  rintro e w1 ⟨rfl, hR, hB⟩
  have PP : Hid (FullPost w 1 v (.returned (.slice (some ⟨w.heap.size, 0, none⟩) (1 * 256) (1 * 256))) w1) := ⟨rfl, hR, hB⟩
  clear hR hB
  go_wp2_with fail
  go_ret
  exact PP.out
/-- A list of numbers: where it is not empty, it lies from a block's start on. -/
def IList (W : World) (v : Value) (L : List Int) : Prop := ∃ a c, v = .slice a L.length c ∧ (∀ k, k < L.length → ∃ b, a = some ⟨b, 0, none⟩ ∧ W.cell? ⟨b, k, none⟩ = some (.int .i64 (L.getD k 0)) ∧ b < W.heap.size)
theorem IList.below {W W' : World} {v : Value} {L : List Int} (h : IList W v L) (hB : Below W.heap.size W W') : IList W' v L := by
  obtain ⟨a, c, rfl, h⟩ := h
  refine ⟨a, c, rfl, fun k hk => ?_⟩
  obtain ⟨b, e, hc, hb⟩ := h k hk
  exact ⟨b, e, (hB.cell (p := ⟨b, k, none⟩) hb).trans hc, Nat.lt_of_lt_of_le hb hB.size⟩
theorem IList.ofLoose {W W1 : World} {v : Value} {L : List Int} (hv : W1.ownsRow W.heap.size 3 1 v L.length (L.map encZ)) : IList W1 v L := by
  rcases hv.2 with ⟨rfl, h0⟩ | ⟨b, cap, cur, rfl, hbg, hg, hnc, _, hsz, htake⟩
  · exact ⟨none, 0, by rw [h0], fun k hk => by omega⟩
  · refine ⟨_, cap, rfl, fun k hk => ⟨b, rfl, ?_, (Array.getElem?_eq_some_iff.1 hg).1⟩⟩
    rw [cell_of_row W1 b k cur 3 (0, 0) hg]
    have e : (L.map encZ)[k]? = some (.int .i64 (L.getD k 0)) := by
      rw [List.getElem?_map, List.getElem?_eq_getElem hk, List.getD_eq_getElem?_getD, List.getElem?_eq_getElem hk]
      rfl
    rw [← htake, List.getElem?_take, if_pos (by omega)] at e
    simpa using e
def sintRel (w : World) (n : Nat) (i : Value) (wr : World) : Prop := ∃ k : Nat, k ≤ n ∧ i = .int .i64 k ∧ Below w.heap.size w wr
set_option maxRecDepth 100000 in
set_option maxHeartbeats 1000000 in
theorem sints_any (v u : Value) (L : List Int) (w : World) (h1 : IList w v L) (h2 : IList w u L) (hL : L.length ≤ 65536) :
    Calls Try.prog 44 #[v, u] w fun e w' => e = .returned (.bool true) ∧ Below w.heap.size w w' := by
  obtain ⟨a, c, rfl, h1⟩ := h1
  obtain ⟨a', c', rfl, h2⟩ := h2
  obtain ⟨n, hn⟩ : ∃ n, L.length = n := ⟨_, rfl⟩
  obtain ⟨F, hF⟩ : ∃ F : Nat → Int, ∀ k, L.getD k 0 = F k := ⟨_, fun _ => rfl⟩
  rw [hn] at hL h1 h2 ⊢
  simp only [hF] at h1 h2
  have H1 : Hid (∀ k, k < n → ∃ b, a = some ⟨b, 0, none⟩ ∧ w.cell? ⟨b, k, none⟩ = some (.int .i64 (F k)) ∧ b < w.heap.size) := h1
  have H2 : Hid (∀ k, k < n → ∃ b, a' = some ⟨b, 0, none⟩ ∧ w.cell? ⟨b, k, none⟩ = some (.int .i64 (F k)) ∧ b < w.heap.size) := h2
  clear h1 h2 hn hF
  have ST : Hid (sintRel w n (.int .i64 0) w) := ⟨0, by omega, rfl, Below.refl _ _⟩
  go_enter Try.func44, Try.ntmps44
  go_wp2_with fail
  go_loopw [5] (fun i wr => sintRel w n i wr) (fun i _ => n - (RowKit.intOf i).toNat)
  case atStart => exact ST.out
  case round =>
    obtain ⟨k, hk, rfl, hB⟩ := hrel
    clear ST
    have BE : Hid (Below w.heap.size w wr) := hB
    by_cases hlt : k < n
    · obtain ⟨b, rfl, cb, lb⟩ := H1.out k hlt
      obtain ⟨b', rfl, cb', lb'⟩ := H2.out k hlt
      have c0 : wr.cell? ⟨b, k, none⟩ = some (.int .i64 (F k)) := (hB.cell (p := ⟨b, k, none⟩) lb).trans cb
      have c1 : wr.cell? ⟨b', k, none⟩ = some (.int .i64 (F k)) := (hB.cell (p := ⟨b', k, none⟩) lb').trans cb'
      have RR : Hid (sintRel w n (.int .i64 ((k : Int) + 1)) wr.drew) := ⟨k + 1, by omega, by go_num, BE.out.drew⟩
      have i0 : (k : Int) < n := by omega
      have i1 : (0 : Int) ≤ (k : Int) := by omega
      clear cb cb' hB
      go_wp2_with fail
      go_region
      go_wp2_with fail
      go_roundw
      case rel => exact RR.out
      case measure => simp [RowKit.intOf]; omega
    · have i0 : ¬ (k : Int) < n := by omega
      clear hB
      go_wp2_with fail
      go_ret
      exact ⟨rfl, BE.out⟩
end Go.Proofs.Ytoehbljnapdbgaa
