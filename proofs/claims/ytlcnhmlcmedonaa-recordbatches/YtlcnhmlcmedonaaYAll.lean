/-
  Proved: RecordBatches: for all lists of accounts and transfers and all bytes, in whatever memory, on every schedule, the statement's function returns true: which bytes batches have, and which batches bytes are, is as the document says; what is handed in stays, answers are new memory. No condition.
-/
import Derived.Test.YtlcnhmlcmedonaaXReadT
import Derived.Test.YtlcnhmlcmedonaaLead
import Derived.Test.YtlcnhmlcmedonaaXBatch
import Derived.Test.YtlcnhmlcmedonaaBNil
import Derived.Test.YtlcnhmlcmedonaaBNilA
import Derived.Test.YtlcnhmlcmedonaaBApart3
import Derived.Test.YtlcnhmlcmedonaaQTB
import Derived.Test.YtlcnhmlcmedonaaQImg
import Derived.Test.YtlcnhmlcmedonaaQARead
import Derived.Test.YtlcnhmlcmedonaaQTRead
import Derived.Test.YtlcnhmlcmedonaaBNo
import Derived.Test.YtlcnhmlcmedonaaRAwake
import Derived.Test.YtlcnhmlcmedonaaBLent
import Derived.Test.YtlcnhmlcmedonaaXSame
import Derived.Test.YtlcnhmlcmedonaaBFrame
import Derived.Lib.SmallJoins
namespace Go.Proofs.Ytlcnhmlcmedonaa
open Go.RowKit
theorem recCells_len {c : Nat} (f : Nat → Int) : ∀ l : List (Fin c), (recCells f l).length = l.length * 19
  | [] => rfl
  | x :: l => by
    have := recCells_len f l
    unfold recCells at this ⊢
    rw [List.flatMap_cons, List.length_append, this, List.length_cons, Fld.cells_len]
    omega
theorem recCells_at (c : Nat) (f : Nat → Int) : ∀ k, k ≤ c → ∀ i j, i < k → j < 19 → (recCells f (upTo c k))[i * 19 + j]? = (recOf fun t => f (i * 128 + t)).cells[j]?
  | 0, _, i, j, hi, _ => absurd hi (by omega)
  | k + 1, hk, i, j, hi, hj => by
    have hl : (recCells f (upTo c k)).length = k * 19 := by rw [recCells_len, upTo_length c k (by omega)]
    rw [upTo_succ c k (by omega), recCells_snoc]
    by_cases e : i < k
    · rw [List.getElem?_append_left (by rw [hl]; omega)]
      exact recCells_at c f k (by omega) i j e hj
    · obtain rfl : i = k := by omega
      rw [List.getElem?_append_right (by rw [hl]; omega), hl]
      congr 1
      omega
theorem recs_of_own {T : TypeId} {W : World} {base n : Nat} {v : Value} {f : Nat → Int} (h : W.ownsRow base T 19 v n (recCells f (upTo n n))) (hw : ∀ i, i < n → (recOf fun t => f (i * 128 + t)).wf) : ∃ a cap, v = .slice a n cap ∧ RArg W a n (fun i => recOf fun t => f (i * 128 + t)) := by
  rcases h.2 with ⟨rfl, h0⟩ | ⟨g, cap, cur, rfl, hbg, hg, hnc, _, hsz, htake⟩
  · subst h0
    exact ⟨none, 0, rfl, .inl rfl⟩
  · refine ⟨_, cap, rfl, .inr ⟨g, 0, rfl, fun i hi j u hj => ?_, hw, (Array.getElem?_eq_some_iff.1 hg).1⟩⟩
    have hj' : j < 19 := by
      rcases Nat.lt_or_ge j 19 with q | q
      · exact q
      · rw [List.getElem?_eq_none (by rw [Fld.cells_len]; omega)] at hj; cases hj
    have e := recCells_at n f n (Nat.le_refl _) i j hi hj'
    rw [← htake, List.getElem?_take, if_pos (by have : (i + 1) * 19 ≤ n * 19 := Nat.mul_le_mul_right 19 hi; omega)] at e
    have hc : W.cell? ⟨g, 0 + i * 19 + j, none⟩ = cur[i * 19 + j]? := by
      rw [Nat.zero_add]
      simp [World.cell?, hg]
    rw [hc, ← Array.getElem?_toList, e]
    exact hj
end Go.Proofs.Ytlcnhmlcmedonaa
namespace Go.Proofs.Ytlcnhmlcmedonaa
open Go.RowKit
theorem recOf_of (f : Nat → Int) (a : Fld) (ha : a.wf) (hf : ∀ j, j < 128 → f j = a.img j) : recOf f = a := by
  obtain ⟨k0, k1, k2, k3, k4, k5, k6, k7, k8, k9, k10, k11, k12, k13, k14, k15, k16, k17, k18⟩ := ha
  unfold recOf
  rw [hi_back (fun j => f (0 + j)) a.h0 a.l0 (fun j hj => (hf _ (by omega)).trans (img_0 a j hj)) k0, lo_back (fun j => f (0 + j)) a.h0 a.l0 (fun j hj => (hf _ (by omega)).trans (img_0 a j hj)) k1, hi_back (fun j => f (16 + j)) a.h1 a.l1 (fun j hj => (hf _ (by omega)).trans (img_1 a j hj)) k2, lo_back (fun j => f (16 + j)) a.h1 a.l1 (fun j hj => (hf _ (by omega)).trans (img_1 a j hj)) k3, hi_back (fun j => f (32 + j)) a.h2 a.l2 (fun j hj => (hf _ (by omega)).trans (img_2 a j hj)) k4, lo_back (fun j => f (32 + j)) a.h2 a.l2 (fun j hj => (hf _ (by omega)).trans (img_2 a j hj)) k5, hi_back (fun j => f (48 + j)) a.h3 a.l3 (fun j hj => (hf _ (by omega)).trans (img_3 a j hj)) k6, lo_back (fun j => f (48 + j)) a.h3 a.l3 (fun j hj => (hf _ (by omega)).trans (img_3 a j hj)) k7, hi_back (fun j => f (64 + j)) a.h4 a.l4 (fun j hj => (hf _ (by omega)).trans (img_4 a j hj)) k8, lo_back (fun j => f (64 + j)) a.h4 a.l4 (fun j hj => (hf _ (by omega)).trans (img_4 a j hj)) k9, hi_back (fun j => f (80 + j)) a.h5 a.l5 (fun j hj => (hf _ (by omega)).trans (img_5 a j hj)) k10, lo_back (fun j => f (80 + j)) a.h5 a.l5 (fun j hj => (hf _ (by omega)).trans (img_5 a j hj)) k11, ps_back (fun j => f (96 + j)) a.p 8 18446744073709551616 (by decide) (fun j hj => (hf _ (by omega)).trans (img_6 a j hj)) k12.1 k12.2, ps_back (fun j => f (104 + j)) a.q 4 4294967296 (by decide) (fun j hj => (hf _ (by omega)).trans (img_7 a j hj)) k13.1 k13.2, ps_back (fun j => f (108 + j)) a.r 4 4294967296 (by decide) (fun j hj => (hf _ (by omega)).trans (img_8 a j hj)) k14.1 k14.2, ps_back (fun j => f (112 + j)) a.s 4 4294967296 (by decide) (fun j hj => (hf _ (by omega)).trans (img_9 a j hj)) k15.1 k15.2, ps_back (fun j => f (116 + j)) a.t 2 65536 (by decide) (fun j hj => (hf _ (by omega)).trans (img_10 a j hj)) k16.1 k16.2, ps_back (fun j => f (118 + j)) a.u 2 65536 (by decide) (fun j hj => (hf _ (by omega)).trans (img_11 a j hj)) k17.1 k17.2, ps_back (fun j => f (120 + j)) a.v 8 18446744073709551616 (by decide) (fun j hj => (hf _ (by omega)).trans (img_12 a j hj)) k18.1 k18.2]
theorem xbyt_byte (x : Int) (i : Nat) : 0 ≤ byt x i ∧ byt x i < 256 := by unfold byt; omega
theorem xwide_byte (h l : Int) (j : Nat) : 0 ≤ wide h l j ∧ wide h l j < 256 := by
  unfold wide
  split
  · exact xbyt_byte _ _
  · exact xbyt_byte _ _
theorem xlay_byte {f g : Nat → Int} {off n : Nat} (hf : ∀ j, 0 ≤ f j ∧ f j < 256) (hg : ∀ j, 0 ≤ g j ∧ g j < 256) (j : Nat) : 0 ≤ lay f off n g j ∧ lay f off n g j < 256 := by
  unfold lay
  split
  · exact hf _
  · split
    · exact hg _
    · exact hf _
theorem ximg_byte (a : Fld) : ∀ j, 0 ≤ a.img j ∧ a.img j < 256 :=
  xlay_byte (xlay_byte (xlay_byte (xlay_byte (xlay_byte (xlay_byte (xlay_byte (xlay_byte (xlay_byte (xlay_byte (xlay_byte (xlay_byte (xlay_byte (fun _ => by omega) (xwide_byte _ _)) (xwide_byte _ _)) (xwide_byte _ _)) (xwide_byte _ _)) (xwide_byte _ _)) (xwide_byte _ _)) (xbyt_byte _)) (xbyt_byte _)) (xbyt_byte _)) (xbyt_byte _)) (xbyt_byte _)) (xbyt_byte _)) (xbyt_byte _)
theorem RArg.congr {w : World} {a : Option Addr} {n : Nat} {f g : Nat → Fld} (h : RArg w a n f) (e : ∀ i, i < n → f i = g i) : RArg w a n g := by
  rcases h with h | ⟨b, off, rfl, h⟩
  · exact .inl h
  · exact .inr ⟨b, off, rfl, fun i hi => by rw [← e i hi]; exact h.1 i hi, fun i hi => by rw [← e i hi]; exact h.2.1 i hi, h.2.2⟩
/-- What ReadAccounts and ReadTransfers answer. -/
def RdPost (w : World) (c : Nat) (acc : Nat → Fld) (e : Ending) (w' : World) : Prop := ∃ a cap, e = .returned (.tuple #[.slice a c cap, .int .i64 0]) ∧ RArg w' a c acc ∧ Below w.heap.size w w'
/-- A batch's bytes. -/
def batF (acc : Nat → Fld) (j : Nat) : Int := (acc (j / 128)).img (j % 128)
theorem batF_rec (acc : Nat → Fld) (i : Nat) (hw : (acc i).wf) : (recOf fun t => batF acc (i * 128 + t)) = acc i :=
  recOf_of _ _ hw fun j hj => by unfold batF; rw [show (i * 128 + j) / 128 = i by omega, show (i * 128 + j) % 128 = j by omega]
theorem bat_lies {w : World} {n g : Nat} {cur : Array Value} {acc : Nat → Fld} (hg : w.heap[g]? = some (.cells cur 5 (0, 0))) (htake : cur.toList.take (n * 128 * 1) = batCells acc n) : Lies w g 0 (n * 128) (batF acc) := by
  refine ⟨fun j hj => ?_, fun j _ => ximg_byte _ _, (Array.getElem?_eq_some_iff.1 hg).1⟩
  rw [Nat.zero_add, cell_of_row w g j cur 5 (0, 0) hg]
  have e : (batCells acc n)[j]? = some (.int .u8 (batF acc j)) := cl_at .u8 (n * 128) (batF acc) j hj
  rw [← htake, List.getElem?_take, if_pos (by omega)] at e
  simpa using e
theorem ReadAccounts_lies (b off c C : Nat) (f : Nat → Int) (acc : Nat → Fld) (w : World) (h : Lies w b off (c * 128) f) (hc : c ≤ 8) (hC : c * 128 ≤ C) (ha : ∀ i, i < c → (recOf fun t => f (i * 128 + t)) = acc i) (hw : ∀ i, i < c → (acc i).wf) :
    Calls Try.prog 20 #[.slice (some ⟨b, off, none⟩) (c * 128) C] w (RdPost w c acc) := by
  have main := readBatchA_ok b off c C f w h hc hC
  have M : Hid (Calls Try.prog 38 #[.slice (some ⟨b, off, none⟩) (c * 128) C, .func (.func 39) #[] #[]] w (RBPost w c f)) := main
  clear main h
  go_enter Try.func20, Try.ntmps20
  go_wp2_with fail
  refine M.out.mono ?_
  rintro e w1 ⟨v, rfl, h1, h2⟩
  obtain ⟨a, cap, rfl, hA⟩ := recs_of_own h1 (fun i hi => by rw [ha i hi]; exact hw i hi)
  go_wp2_with fail
  exact bodyPost_ret (v := .tuple #[.slice a c cap, .int .i64 0]) (by simp [results, Try.results20]) rfl ⟨a, cap, rfl, hA.congr ha, h2⟩
theorem ReadAccounts_bat (w : World) (base n : Nat) (v : Value) (acc : Nat → Fld) (h : w.ownsRow base 5 1 v (n * 128) (batCells acc n)) (hn : n ≤ 8) (hw : ∀ i, i < n → (acc i).wf) :
    Calls Try.prog 20 #[v] w (RdPost w n acc) := by
  rcases h.2 with ⟨rfl, h0⟩ | ⟨g, cap, cur, rfl, hbg, hg, hnc, _, _, htake⟩
  · obtain rfl : n = 0 := by omega
    refine (readAccounts_nil w).mono ?_
    rintro e w' ⟨b, rfl, hB⟩
    exact ⟨_, 0, rfl, .inl rfl, hB⟩
  · exact ReadAccounts_lies g 0 n cap (batF acc) acc w (bat_lies hg htake) hn hnc (fun i hi => batF_rec acc i (hw i hi)) hw
theorem ReadTransfers_lies (b off c C : Nat) (f : Nat → Int) (acc : Nat → Fld) (w : World) (h : Lies w b off (c * 128) f) (hc : c ≤ 8) (hC : c * 128 ≤ C) (ha : ∀ i, i < c → (recOf fun t => f (i * 128 + t)) = acc i) (hw : ∀ i, i < c → (acc i).wf) :
    Calls Try.prog 22 #[.slice (some ⟨b, off, none⟩) (c * 128) C] w (RdPost w c acc) := by
  have main := readBatchT_ok b off c C f w h hc hC
  have M : Hid (Calls Try.prog 42 #[.slice (some ⟨b, off, none⟩) (c * 128) C, .func (.func 43) #[] #[]] w (RBPostT w c f)) := main
  clear main h
  go_enter Try.func22, Try.ntmps22
  go_wp2_with fail
  refine M.out.mono ?_
  rintro e w1 ⟨v, rfl, h1, h2⟩
  obtain ⟨a, cap, rfl, hA⟩ := recs_of_own h1 (fun i hi => by rw [ha i hi]; exact hw i hi)
  go_wp2_with fail
  exact bodyPost_ret (v := .tuple #[.slice a c cap, .int .i64 0]) (by simp [results, Try.results22]) rfl ⟨a, cap, rfl, hA.congr ha, h2⟩
theorem ReadTransfers_bat (w : World) (base n : Nat) (v : Value) (acc : Nat → Fld) (h : w.ownsRow base 5 1 v (n * 128) (batCells acc n)) (hn : n ≤ 8) (hw : ∀ i, i < n → (acc i).wf) :
    Calls Try.prog 22 #[v] w (RdPost w n acc) := by
  rcases h.2 with ⟨rfl, h0⟩ | ⟨g, cap, cur, rfl, hbg, hg, hnc, _, _, htake⟩
  · obtain rfl : n = 0 := by omega
    refine (readTransfers_nil w).mono ?_
    rintro e w' ⟨b, rfl, hB⟩
    exact ⟨_, 0, rfl, .inl rfl, hB⟩
  · exact ReadTransfers_lies g 0 n cap (batF acc) acc w (bat_lies hg htake) hn hnc (fun i hi => batF_rec acc i (hw i hi)) hw
end Go.Proofs.Ytlcnhmlcmedonaa
namespace Go.Proofs.Ytlcnhmlcmedonaa
open Go.RowKit
theorem rarg_wf {w : World} {a : Option Addr} {n : Nat} {acc : Nat → Fld} (h : RArg w a n acc) : ∀ i, i < n → (acc i).wf := by
  rcases h with h | ⟨b, off, rfl, h⟩
  · intro i hi; omega
  · exact h.2.1
/-- append where there is room. -/
theorem app_room (ty : TypeId) (W : World) (base n m C g cap : Nat) (a : Option Addr) (F G : Nat → Int) (ho : Own W base (.slice (some ⟨g, 0, none⟩) n cap) n F) (hm0 : 0 < m) (hA : Arg W a m G) (hroom : n + m ≤ cap) :
    ∃ W', (Builtin.append_ #[31, 31] ty #[.slice (some ⟨g, 0, none⟩) n cap, .slice a m C]).run Try.prog W = .ok (.slice (some ⟨g, 0, none⟩) (n + m) cap) W' ∧ Own W' base (.slice (some ⟨g, 0, none⟩) (n + m) cap) (n + m) (cat F n G) ∧ But g W W' := by
  obtain ⟨i0, hi, hz0, hz1, hz2⟩ := info_parts info_u8
  have hlen : (cl .u8 n F ++ cl .u8 m G).length = n + m := by simp [cl_len]
  rcases hA with ⟨h, _⟩ | ⟨_, b, off, rfl, hl⟩
  · omega
  have hnews : ∀ j u, (cl .u8 m G)[j]? = some u → W.cell? ((⟨b, off, none⟩ : Addr).add j) = some u := fun j u hj => by obtain ⟨h, rfl⟩ := cl_at' hj; rw [Addr.add_mid]; exact hl.1 j h
  rcases ho.2 with ⟨h, _⟩ | ⟨g', cap', cur, hv, hbg, hg, hnc, hcm, hcs, htake⟩
  · cases h
  injection hv with hv _ hc
  injection hv with hv
  injection hv with hv
  subst hv hc
  have hr := run_append_room (P := Try.prog) W 31 ty 5 i0 Try.underlying31 hi g n cap cur hg ⟨b, off, none⟩ m C (cl .u8 m G) (by rw [cl_len, hz1, Nat.mul_one]) hnews (cl_one _ _ _) hroom (by rw [cl_len, hcs, hz1]; omega)
  refine ⟨_, hr, ⟨by simp [cl_len], .inr ⟨g, cap, _, rfl, hbg, setRow_heap W g cur _ 5 _ hg, hroom, hcm, ?_, ?_⟩⟩, ?_⟩
  · simp only [List.size_toArray, List.length_append, List.length_take, List.length_drop, Array.length_toList, cl_len, hz1]
    omega
  · rw [Nat.mul_one] at htake ⊢
    rw [hz1, Nat.mul_one, htake, ← cl_cat, ← hlen]
    exact List.take_left
  · exact ⟨rfl, rfl, rfl, by simp, fun k _ hk => setRow_other W g k _ (fun e => hk e)⟩
theorem Own.irow {w : World} {base g n : Nat} {F : Nat → Int} (h : Own w base (.slice (some ⟨g, 0, none⟩) n n) n F) : IRow w g .u8 n F := by
  rcases h.2 with ⟨h, _⟩ | ⟨g', cap', cur, hv, hbg, hg, hnc, _, hsz, htake⟩
  · cases h
  injection hv with hv _ hc
  injection hv with hv
  injection hv with hv
  subst hv hc
  refine ⟨fun j hj => ?_, fun j => by simp [World.frozen?, hg], (Array.getElem?_eq_some_iff.1 hg).1⟩
  rw [cell_of_row w g j cur 5 (0, 0) hg]
  have := cl_at .u8 n F j hj
  rw [← htake, List.getElem?_take, if_pos (by omega)] at this
  simpa using this
/-- What holds at the head of the loop. -/
def roomRel (w : World) (n : Nat) (acc : Nat → Fld) (v i : Value) (wr : World) : Prop := ∃ k : Nat, k ≤ n ∧ i = .int .i64 k ∧ v = .slice (some ⟨w.heap.size, 0, none⟩) (k * 128) (n * 128) ∧ Own wr w.heap.size (.slice (some ⟨w.heap.size, 0, none⟩) (k * 128) (n * 128)) (k * 128) (batF acc) ∧ Below w.heap.size w wr
theorem room_step (w wr u w1 : World) (n k : Nat) (acc : Nat → Fld) (hk : k < n) (hu : Below wr.heap.size wr u) (bel : Below w.heap.size w wr)
    (ho : Own w1 w.heap.size (.slice (some ⟨w.heap.size, 0, none⟩) (k * 128 + 128) (n * 128)) (k * 128 + 128) (cat (batF acc) (k * 128) (acc k).img)) (hB : But w.heap.size u w1) :
    roomRel w n acc (.slice (some ⟨w.heap.size, 0, none⟩) (k * 128 + 128) (n * 128)) (.int .i64 ((k : Int) + 1)) w1 := by
  have e : k * 128 + 128 = (k + 1) * 128 := by omega
  have ho' := ho.congr (G := batF acc) (fun j hj => by
    unfold cat
    by_cases q : j < k * 128
    · rw [if_pos q]
    · rw [if_neg q]
      unfold batF
      rw [show j / 128 = k by omega, show j % 128 = j - k * 128 by omega])
  rw [e] at ho' ⊢
  have h2 := bel.size
  have h3 := hu.size
  exact ⟨k + 1, by omega, by go_num, rfl, ho', bel.trans ((hu.mono h2).trans (hB.below (Nat.le_refl _) (by omega)))⟩
/-- What is answered: bytes in a block of just that size. -/
def RoomPost (w : World) (n : Nat) (acc : Nat → Fld) (e : Ending) (w' : World) : Prop := e = .returned (.tuple #[.slice (some ⟨w.heap.size, 0, none⟩) (n * 128) (n * 128), .int .i64 0]) ∧ IRow w' w.heap.size .u8 (n * 128) (batF acc) ∧ Below w.heap.size w w'
set_option maxRecDepth 100000 in
set_option maxHeartbeats 2000000 in
theorem roomAccount (a : Option Addr) (n C : Nat) (acc : Nat → Fld) (w : World) (h : RArg w a n acc) (hn : n ≤ 8) :
    Calls Try.prog 36 #[.slice a n C, .func (.func 6) #[] #[]] w (RoomPost w n acc) := by
  obtain ⟨i0, hi, hz0, hz1, hz2⟩ := info_parts info_u8
  obtain ⟨W0, hmk0, hown0, hg0⟩ := run_make_own (P := Try.prog) w w.heap.size 31 5 i0 (.int .u8 0) 1 Try.underlying31 hi hz0 hz1 .i64 .i64 (n * 128) (by rw [hz2]; omega) (by unfold maxLen; omega) (Nat.le_refl _)
  have hmk : (Instr.makeSlice 31 (.int .i64 0) (.int .i64 ((n : Int) * 128))).run Try.prog w = .ok (.slice (some ⟨w.heap.size, 0, none⟩) 0 (n * 128)) W0 := by
    rw [show ((n * 128 : Nat) : Int) = (n : Int) * 128 by omega] at hmk0
    exact hmk0
  have ST : Hid (roomRel w n acc (.slice (some ⟨w.heap.size, 0, none⟩) 0 (n * 128)) (.int .i64 0) W0) := ⟨0, by omega, rfl, by rw [Nat.zero_mul], by rw [Nat.zero_mul]; exact hown0, (Below.refl _ _).grown hg0 (Nat.le_refl _) (fun k hk => by cases hk)⟩
  have HR : Hid (RArg w a n acc) := h
  have m1 : wrap64 ((n : Int) * 128) = (n : Int) * 128 := by unfold wrap64; omega
  have m2 : IntKind.i64.wrap ((n : Int) * 128) = (n : Int) * 128 := by rw [IntKind.wrap_i64]; omega
  have m3 : ¬ (8 : Int) < n := by omega
  clear h hmk0 hown0 hg0
  go_enter Try.func36, Try.ntmps36
  go_wp2_with fail
  go_loopw [6, 18] (fun v i wr => roomRel w n acc v i wr) (fun _ i _ => n - (intOf i).toNat)
  case atStart => exact ST.out
  case round =>
    obtain ⟨k, hk, rfl, rfl, hown, bel⟩ := hrel
    clear ST hmk
    have BE : Hid (Below w.heap.size w wr) := bel
    have OW : Hid (Own wr w.heap.size (.slice (some ⟨w.heap.size, 0, none⟩) (k * 128) (n * 128)) (k * 128) (batF acc)) := hown
    clear hown
    by_cases hlt : k < n
    · have i1 : (k : Int) < n := by omega
      rcases HR.out with h0 | ⟨b, off, rfl, R⟩
      · omega
      have hb := R.2.2
      have rng : wr.rangeAt b (off + k * 19) (acc k).cells := fun j v hj => (bel.cell (p := ⟨b, off + k * 19 + j, none⟩) hb).trans (R.1 k hlt j v hj)
      clear bel R
      go_wp2_with (first
        | (refine wpList_load_mid (P := Try.prog) rfl 28 (.tmp 20) rfl b (off + k * 19) rfl (acc k).cells _ rng Try.underlying28 rfl (by kernel_rfl) ?_)
        | (refine wpList_store_rec rfl 28 (.tmp 8) _ rfl wr.heap.size 0 zero19 (acc k).cells rfl rfl (Rec19.new wr 28 zero19) rfl (by kernel_rfl) (acc k).cells_one ?_; intro W2 R2 K2)
        | (refine wpList_load_rec rfl 28 (.tmp 8) rfl wr.heap.size 0 (acc k).cells rfl _ Try.underlying28 rfl (by kernel_rfl) R2 ?_))
      refine (abytes_any (acc k) _ (rarg_wf HR.out k hlt)).mono ?_
      rintro e w3 ⟨b3, rfl, hb3, R3, K3⟩
      have D2 : Below wr.heap.size wr W2 := ((Below.refl _ _).alloc (Nat.le_refl _) _).trans (K2.below (Nat.le_refl _) (by simp))
      have D3 : Below wr.heap.size wr w3 := D2.trans (K3.mono D2.size)
      have l3 : Lies w3 b3 0 128 (acc k).img := ⟨fun j hj => by rw [Nat.zero_add]; exact R3.1 j hj, fun j _ => ximg_byte _ j, R3.2.2⟩
      obtain ⟨w4, hr4, hO4, hB4⟩ := app_room 31 w3 w.heap.size (k * 128) 128 128 w.heap.size (n * 128) (some ⟨b3, 0, none⟩) (batF acc) (acc k).img (OW.out.below D3) (by omega) (Arg.of l3) (by omega)
      have RR : Hid (roomRel w n acc (.slice (some ⟨w.heap.size, 0, none⟩) (k * 128 + 128) (n * 128)) (.int .i64 ((k : Int) + 1)) w4) := room_step w wr w3 w4 n k acc hlt D3 BE.out hO4 hB4
      clear K2 K3 R2 D2 rng D3 R3 l3 hO4 hB4
      go_wp2_with (at_builtin; refine wpList_append_go rfl _ _ 31 31 rfl _ _ rfl rfl hr4 ?_)
      go_roundw
      case rel => exact RR.out
      case measure => simp [intOf]; omega
    · obtain rfl : k = n := by omega
      go_wp2_with fail
      exact bodyPost_ret (by simp [results, Try.results36, go_sem]) rfl ⟨rfl, OW.out.irow, BE.out⟩
set_option maxRecDepth 100000 in
set_option maxHeartbeats 2000000 in
theorem roomTransfer (a : Option Addr) (n C : Nat) (acc : Nat → Fld) (w : World) (h : RArg w a n acc) (hn : n ≤ 8) :
    Calls Try.prog 37 #[.slice a n C, .func (.func 7) #[] #[]] w (RoomPost w n acc) := by
  obtain ⟨i0, hi, hz0, hz1, hz2⟩ := info_parts info_u8
  obtain ⟨W0, hmk0, hown0, hg0⟩ := run_make_own (P := Try.prog) w w.heap.size 31 5 i0 (.int .u8 0) 1 Try.underlying31 hi hz0 hz1 .i64 .i64 (n * 128) (by rw [hz2]; omega) (by unfold maxLen; omega) (Nat.le_refl _)
  have hmk : (Instr.makeSlice 31 (.int .i64 0) (.int .i64 ((n : Int) * 128))).run Try.prog w = .ok (.slice (some ⟨w.heap.size, 0, none⟩) 0 (n * 128)) W0 := by
    rw [show ((n * 128 : Nat) : Int) = (n : Int) * 128 by omega] at hmk0
    exact hmk0
  have ST : Hid (roomRel w n acc (.slice (some ⟨w.heap.size, 0, none⟩) 0 (n * 128)) (.int .i64 0) W0) := ⟨0, by omega, rfl, by rw [Nat.zero_mul], by rw [Nat.zero_mul]; exact hown0, (Below.refl _ _).grown hg0 (Nat.le_refl _) (fun k hk => by cases hk)⟩
  have HR : Hid (RArg w a n acc) := h
  have m1 : wrap64 ((n : Int) * 128) = (n : Int) * 128 := by unfold wrap64; omega
  have m2 : IntKind.i64.wrap ((n : Int) * 128) = (n : Int) * 128 := by rw [IntKind.wrap_i64]; omega
  have m3 : ¬ (8 : Int) < n := by omega
  clear h hmk0 hown0 hg0
  go_enter Try.func37, Try.ntmps37
  go_wp2_with fail
  go_loopw [6, 18] (fun v i wr => roomRel w n acc v i wr) (fun _ i _ => n - (intOf i).toNat)
  case atStart => exact ST.out
  case round =>
    obtain ⟨k, hk, rfl, rfl, hown, bel⟩ := hrel
    clear ST hmk
    have BE : Hid (Below w.heap.size w wr) := bel
    have OW : Hid (Own wr w.heap.size (.slice (some ⟨w.heap.size, 0, none⟩) (k * 128) (n * 128)) (k * 128) (batF acc)) := hown
    clear hown
    by_cases hlt : k < n
    · have i1 : (k : Int) < n := by omega
      rcases HR.out with h0 | ⟨b, off, rfl, R⟩
      · omega
      have hb := R.2.2
      have rng : wr.rangeAt b (off + k * 19) (acc k).cells := fun j v hj => (bel.cell (p := ⟨b, off + k * 19 + j, none⟩) hb).trans (R.1 k hlt j v hj)
      clear bel R
      go_wp2_with (first
        | (refine wpList_load_mid (P := Try.prog) rfl 30 (.tmp 20) rfl b (off + k * 19) rfl (acc k).cells _ rng Try.underlying30 rfl (by kernel_rfl) ?_)
        | (refine wpList_store_rec rfl 30 (.tmp 8) _ rfl wr.heap.size 0 zero19 (acc k).cells rfl rfl (Rec19.new wr 30 zero19) rfl (by kernel_rfl) (acc k).cells_one ?_; intro W2 R2 K2)
        | (refine wpList_load_rec rfl 30 (.tmp 8) rfl wr.heap.size 0 (acc k).cells rfl _ Try.underlying30 rfl (by kernel_rfl) R2 ?_))
      refine (tbytes_any (acc k) _ (rarg_wf HR.out k hlt)).mono ?_
      rintro e w3 ⟨b3, rfl, hb3, R3, K3⟩
      have D2 : Below wr.heap.size wr W2 := ((Below.refl _ _).alloc (Nat.le_refl _) _).trans (K2.below (Nat.le_refl _) (by simp))
      have D3 : Below wr.heap.size wr w3 := D2.trans (K3.mono D2.size)
      have l3 : Lies w3 b3 0 128 (acc k).img := ⟨fun j hj => by rw [Nat.zero_add]; exact R3.1 j hj, fun j _ => ximg_byte _ j, R3.2.2⟩
      obtain ⟨w4, hr4, hO4, hB4⟩ := app_room 31 w3 w.heap.size (k * 128) 128 128 w.heap.size (n * 128) (some ⟨b3, 0, none⟩) (batF acc) (acc k).img (OW.out.below D3) (by omega) (Arg.of l3) (by omega)
      have RR : Hid (roomRel w n acc (.slice (some ⟨w.heap.size, 0, none⟩) (k * 128 + 128) (n * 128)) (.int .i64 ((k : Int) + 1)) w4) := room_step w wr w3 w4 n k acc hlt D3 BE.out hO4 hB4
      clear K2 K3 R2 D2 rng D3 R3 l3 hO4 hB4
      go_wp2_with (at_builtin; refine wpList_append_go rfl _ _ 31 31 rfl _ _ rfl rfl hr4 ?_)
      go_roundw
      case rel => exact RR.out
      case measure => simp [intOf]; omega
    · obtain rfl : k = n := by omega
      go_wp2_with fail
      exact bodyPost_ret (by simp [results, Try.results37, go_sem]) rfl ⟨rfl, OW.out.irow, BE.out⟩
/-- The error of a batch of n records, and how many bytes it has. -/
def bcode (n : Nat) : Int := if n ≤ 8 then 0 else 3
def bsize (n : Nat) : Nat := if n ≤ 8 then n * 128 else 0
/-- What AccountsBytes and TransfersBytes answer. -/
def AbPost (w : World) (n : Nat) (acc : Nat → Fld) (e : Ending) (w' : World) : Prop := ∃ a, e = .returned (.tuple #[.slice a (bsize n) (bsize n), .int .i64 (bcode n)]) ∧ Lst.ok w.heap.size w' ⟨a, bsize n, bsize n⟩ (batF acc) ∧ (∀ p, a = some p → p.block < w'.heap.size) ∧ Below w.heap.size w w'
theorem Accounts_room (a : Option Addr) (n C : Nat) (acc : Nat → Fld) (w : World) (h : RArg w a n acc) :
    Calls Try.prog 14 #[.slice a n C] w (AbPost w n acc) := by
  by_cases hn : n ≤ 8
  · have e1 : bcode n = 0 := if_pos hn
    have e2 : bsize n = n * 128 := if_pos hn
    have M : Hid (Calls Try.prog 36 #[.slice a n C, .func (.func 6) #[] #[]] w (RoomPost w n acc)) := roomAccount a n C acc w h hn
    unfold AbPost
    rw [e1, e2]
    clear h e1 e2
    go_enter Try.func14, Try.ntmps14
    go_wp2_with fail
    refine M.out.mono ?_
    rintro e w1 ⟨rfl, h1, h2⟩
    go_wp2_with fail
    exact bodyPost_ret (v := .tuple #[.slice (some ⟨w.heap.size, 0, none⟩) (n * 128) (n * 128), .int .i64 0]) (by simp [results, Try.results14]) rfl ⟨_, rfl, ⟨Nat.le_refl _, by show n * 128 ≤ 1000000; omega, fun j _ => ximg_byte _ _, .inr ⟨_, rfl, Nat.le_refl _, h1⟩⟩, fun p hp => by cases hp; exact h1.2.2, h2⟩
  · have e1 : bcode n = 3 := if_neg hn
    have e2 : bsize n = 0 := if_neg hn
    unfold AbPost
    rw [e1, e2]
    refine (AccountsBytes_long a n C w (by omega)).mono ?_
    rintro e w' ⟨rfl, hB⟩
    exact ⟨none, rfl, ⟨Nat.le_refl _, by show 0 ≤ 1000000; omega, fun j hj => absurd hj (Nat.not_lt_zero _), .inl ⟨rfl, rfl⟩⟩, fun p hp => (by cases hp), hB⟩
theorem Transfers_room (a : Option Addr) (n C : Nat) (acc : Nat → Fld) (w : World) (h : RArg w a n acc) :
    Calls Try.prog 16 #[.slice a n C] w (AbPost w n acc) := by
  by_cases hn : n ≤ 8
  · have e1 : bcode n = 0 := if_pos hn
    have e2 : bsize n = n * 128 := if_pos hn
    have M : Hid (Calls Try.prog 37 #[.slice a n C, .func (.func 7) #[] #[]] w (RoomPost w n acc)) := roomTransfer a n C acc w h hn
    unfold AbPost
    rw [e1, e2]
    clear h e1 e2
    go_enter Try.func16, Try.ntmps16
    go_wp2_with fail
    refine M.out.mono ?_
    rintro e w1 ⟨rfl, h1, h2⟩
    go_wp2_with fail
    exact bodyPost_ret (v := .tuple #[.slice (some ⟨w.heap.size, 0, none⟩) (n * 128) (n * 128), .int .i64 0]) (by simp [results, Try.results16]) rfl ⟨_, rfl, ⟨Nat.le_refl _, by show n * 128 ≤ 1000000; omega, fun j _ => ximg_byte _ _, .inr ⟨_, rfl, Nat.le_refl _, h1⟩⟩, fun p hp => by cases hp; exact h1.2.2, h2⟩
  · have e1 : bcode n = 3 := if_neg hn
    have e2 : bsize n = 0 := if_neg hn
    unfold AbPost
    rw [e1, e2]
    refine (TransfersBytes_long a n C w (by omega)).mono ?_
    rintro e w' ⟨rfl, hB⟩
    exact ⟨none, rfl, ⟨Nat.le_refl _, by show 0 ≤ 1000000; omega, fun j hj => absurd hj (Nat.not_lt_zero _), .inl ⟨rfl, rfl⟩⟩, fun p hp => (by cases hp), hB⟩
end Go.Proofs.Ytlcnhmlcmedonaa
namespace Go.Proofs.Ytlcnhmlcmedonaa
open Go.RowKit
theorem wpList_step_go {ops : Array Oper} {rest : List Oper} {op : Oper} {a : Act} {w : World} {Q : Exit → Act → World → Prop} (hgd : op.guard = none) {v : Value} {w' : World} (hx : (execOp a.eval op).run Try.prog w = .ok (.value v) w')
    (hK : wpList Try.prog ops Q rest (a.put op.dst v) w') : wpList Try.prog ops Q (op :: rest) a w := by
  refine wpList_plain hgd fun K hK' => ?_
  unfold Oper.wp
  rw [hx]
  exact hK' _ _ hK
theorem own_slice {w : World} {base : Nat} {v : Value} {n : Nat} {F : Nat → Int} (h : Own w base v n F) (hb : ∀ j, j < n → 0 ≤ F j ∧ F j < 256) : ∃ a cap, v = .slice a n cap ∧ Arg w a n F := by
  by_cases hn : n = 0
  · rcases h.2 with ⟨rfl, h0⟩ | ⟨g, cap, cur, rfl, _⟩
    · exact ⟨none, 0, by rw [h0], .inl ⟨h0, .inl rfl⟩⟩
    · exact ⟨_, cap, rfl, .inl ⟨hn, .inr ⟨_, rfl⟩⟩⟩
  · obtain ⟨g, cap, rfl, _, _, hl⟩ := h.form (by omega) hb
    exact ⟨_, cap, rfl, Arg.of hl⟩
/-- Records' cells, behind one another. -/
def recsL (acc : Nat → Fld) (n : Nat) : List Value := (List.range n).flatMap fun i => (acc i).cells
theorem recsL_succ (acc : Nat → Fld) (n : Nat) : recsL acc (n + 1) = recsL acc n ++ (acc n).cells := by
  unfold recsL
  rw [List.range_succ, List.flatMap_append]
  simp
theorem recsL_len (acc : Nat → Fld) : ∀ n, (recsL acc n).length = n * 19
  | 0 => rfl
  | n + 1 => by rw [recsL_succ, List.length_append, recsL_len acc n, Fld.cells_len]; omega
theorem recsL_at (acc : Nat → Fld) : ∀ n i j, i < n → j < 19 → (recsL acc n)[i * 19 + j]? = (acc i).cells[j]?
  | 0, i, j, hi, _ => absurd hi (by omega)
  | n + 1, i, j, hi, hj => by
    rw [recsL_succ]
    by_cases e : i < n
    · rw [List.getElem?_append_left (by rw [recsL_len]; omega)]
      exact recsL_at acc n i j e hj
    · obtain rfl : i = n := by omega
      rw [List.getElem?_append_right (by rw [recsL_len]; omega), recsL_len]
      congr 1
      omega
theorem recsL_one (acc : Nat → Fld) (n : Nat) : ∀ v ∈ recsL acc n, v.oneCell' = true := by
  intro v hv
  unfold recsL at hv
  rw [List.mem_flatMap] at hv
  obtain ⟨i, _, hv⟩ := hv
  exact (acc i).cells_one v hv
theorem rarg_of_own {T : TypeId} {W : World} {base n : Nat} {v : Value} {acc : Nat → Fld} (h : W.ownsRow base T 19 v n (recsL acc n)) (hw : ∀ i, i < n → (acc i).wf) : ∃ a cap, v = .slice a n cap ∧ RArg W a n acc := by
  rcases h.2 with ⟨rfl, h0⟩ | ⟨g, cap, cur, rfl, hbg, hg, hnc, _, hsz, htake⟩
  · subst h0
    exact ⟨none, 0, rfl, .inl rfl⟩
  · refine ⟨_, cap, rfl, .inr ⟨g, 0, rfl, fun i hi j u hj => ?_, hw, (Array.getElem?_eq_some_iff.1 hg).1⟩⟩
    have hj' : j < 19 := by
      rcases Nat.lt_or_ge j 19 with q | q
      · exact q
      · rw [List.getElem?_eq_none (by rw [Fld.cells_len]; omega)] at hj; cases hj
    have e := recsL_at acc n i j hi hj'
    rw [← htake, List.getElem?_take, if_pos (by have : (i + 1) * 19 ≤ n * 19 := Nat.mul_le_mul_right 19 hi; omega)] at e
    have hc : W.cell? ⟨g, 0 + i * 19 + j, none⟩ = cur[i * 19 + j]? := by
      rw [Nat.zero_add]
      simp [World.cell?, hg]
    rw [hc, ← Array.getElem?_toList, e]
    exact hj
/-- What holds at the head of the loop. -/
def yabRel (w : World) (n : Nat) (acc : Nat → Fld) (v i : Value) (wr : World) : Prop := ∃ k : Nat, k ≤ n ∧ i = .int .i64 k ∧ Own wr w.heap.size v (k * 128) (batF acc) ∧ Below w.heap.size w wr
theorem yab_step (w wr u w1 : World) (n k : Nat) (acc : Nat → Fld) (v' : Value) (hk : k < n) (hu : Below wr.heap.size wr u) (bel : Below w.heap.size w wr)
    (ho : Own w1 w.heap.size v' (k * 128 + 128) (cat (batF acc) (k * 128) (acc k).img)) (hB : Below w.heap.size u w1) : yabRel w n acc v' (.int .i64 ((k : Int) + 1)) w1 := by
  have ho' := ho.congr (G := batF acc) (fun j hj => by
    unfold cat
    by_cases q : j < k * 128
    · rw [if_pos q]
    · rw [if_neg q]
      unfold batF
      rw [show j / 128 = k by omega, show j % 128 = j - k * 128 by omega])
  rw [show k * 128 + 128 = (k + 1) * 128 by omega] at ho'
  exact ⟨k + 1, by omega, by go_num, ho', bel.trans ((hu.mono bel.size).trans hB)⟩
/-- What the document's AccountsBytes and TransfersBytes answer. -/
def QbPost (w : World) (n : Nat) (acc : Nat → Fld) (e : Ending) (w' : World) : Prop := ∃ a cap, e = .returned (.tuple #[.slice a (bsize n) cap, .int .i64 (bcode n)]) ∧ Arg w' a (bsize n) (batF acc) ∧ Below w.heap.size w w'
/-- The error of n bytes, and how many records they are. -/
def rcode (n : Nat) : Int := if n % 128 ≠ 0 then 4 else if 1024 < n then 3 else 0
def rcnt (n : Nat) : Nat := if n % 128 ≠ 0 then 0 else if 1024 < n then 0 else n / 128
/-- What ReadAccounts and ReadTransfers answer, the document's and the program's. -/
def RcPost (w : World) (n : Nat) (f : Nat → Int) (e : Ending) (w' : World) : Prop := ∃ a cap, e = .returned (.tuple #[.slice a (rcnt n) cap, .int .i64 (rcode n)]) ∧ RArg w' a (rcnt n) (fun i => recOf fun t => f (i * 128 + t)) ∧ Below w.heap.size w w'
theorem arecOf_wf (f : Nat → Int) (hf : ∀ j, j < 128 → 0 ≤ f j ∧ f j < 256) : (recOf f).wf := by
  have hi : ∀ o, o + 16 ≤ 128 → Word (hi16 fun j => f (o + j)) := fun o ho => le8_word _ (fun j hj => hf _ (by omega))
  have lo : ∀ o, o + 16 ≤ 128 → Word (lo16 fun j => f (o + j)) := fun o ho => le8_word _ (fun j hj => hf _ (by omega))
  have pb : ∀ o n, o + n ≤ 128 → 0 ≤ ps (fun j => f (o + j)) n ∧ ps (fun j => f (o + j)) n < 256 ^ n := fun o n ho => ps_bound _ n (fun j hj => hf _ (by omega))
  exact ⟨hi 0 (by omega), lo 0 (by omega), hi 16 (by omega), lo 16 (by omega), hi 32 (by omega), lo 32 (by omega), hi 48 (by omega), lo 48 (by omega), hi 64 (by omega), lo 64 (by omega), hi 80 (by omega), lo 80 (by omega), pb 96 8 (by omega), pb 104 4 (by omega), pb 108 4 (by omega), pb 112 4 (by omega), pb 116 2 (by omega), pb 118 2 (by omega), pb 120 8 (by omega)⟩
theorem wrong_any (a : Option Addr) (n C : Nat) (w : World) (hn : n ≤ 1000000) : Calls Try.prog 40 #[.slice a n C] w fun e w' => e = .returned (.int .i64 (rcode n)) ∧ w' = w := by
  unfold rcode
  by_cases h1 : n % 128 ≠ 0
  · have e1 : ¬ (n : Int).tmod 128 = 0 := by rw [Int.tmod_eq_emod_of_nonneg (by omega)]; omega
    rw [if_pos h1]
    go_enter Try.func40, Try.ntmps40
    go_wp2_with fail
    go_ret
    exact ⟨rfl, rfl⟩
  · have e1 : (n : Int).tmod 128 = 0 := by rw [Int.tmod_eq_emod_of_nonneg (by omega)]; omega
    rw [if_neg h1]
    by_cases h2 : 1024 < n
    · have e2 : (1024 : Int) < n := by omega
      rw [if_pos h2]
      go_enter Try.func40, Try.ntmps40
      go_wp2_with fail
      go_ret
      exact ⟨rfl, rfl⟩
    · have e2 : ¬ (1024 : Int) < n := by omega
      rw [if_neg h2]
      go_enter Try.func40, Try.ntmps40
      go_wp2_with fail
      go_ret
      exact ⟨rfl, rfl⟩
set_option maxRecDepth 100000 in
set_option maxHeartbeats 1000000 in
theorem qAccounts_bytes (a : Option Addr) (n C : Nat) (acc : Nat → Fld) (w : World) (h : RArg w a n acc) :
    Calls Try.prog 15 #[.slice a n C] w (QbPost w n acc) := by
  unfold QbPost
  by_cases hn : n ≤ 8
  · have e1 : bcode n = 0 := if_pos hn
    have e2 : bsize n = n * 128 := if_pos hn
    rw [e1, e2]
    have HR : Hid (RArg w a n acc) := h
    have ST : Hid (yabRel w n acc (.slice none 0 0) (.int .i64 0) w) := ⟨0, by omega, rfl, by rw [Nat.zero_mul]; exact Own.nil _ _ _, Below.refl _ _⟩
    have m3 : ¬ (8 : Int) < n := by omega
    clear h e1 e2
    go_enter Try.func15, Try.ntmps15
    go_wp2_with fail
    go_loopw [4, 5] (fun v i wr => yabRel w n acc v i wr) (fun _ i _ => n - (intOf i).toNat)
    case atStart => exact ST.out
    case round =>
      obtain ⟨k, hk, rfl, hown, bel⟩ := hrel
      clear ST
      have BE : Hid (Below w.heap.size w wr) := bel
      have OW : Hid (Own wr w.heap.size _ (k * 128) (batF acc)) := hown
      clear hown
      by_cases hlt : k < n
      · have i1 : (k : Int) < n := by omega
        rcases HR.out with h0 | ⟨b, off, rfl, R⟩
        · omega
        have hb := R.2.2
        have rng : wr.rangeAt b (off + k * 19) (acc k).cells := fun j v hj => (bel.cell (p := ⟨b, off + k * 19 + j, none⟩) hb).trans (R.1 k hlt j v hj)
        clear bel R
        go_wp2_with (refine wpList_load_mid (P := Try.prog) rfl 28 (.tmp 18) rfl b (off + k * 19) rfl (acc k).cells _ rng Try.underlying28 rfl (by kernel_rfl) ?_)
        refine (qabytes_any (acc k) _ (rarg_wf HR.out k hlt)).mono ?_
        rintro e w3 ⟨v3, rfl, hO3, K3⟩
        obtain ⟨g3, cap3, rfl, _, _, hL3⟩ := (hO3.congr (qimg (acc k))).form (by omega) (fun j _ => ximg_byte _ j)
        obtain ⟨v4, w4, hr4, hO4, hB4⟩ := app_arg 31 w3 w.heap.size (k * 128) 128 cap3 _ (some ⟨g3, 0, none⟩) (batF acc) (acc k).img (OW.out.below K3) (Arg.of hL3) (by omega) (Nat.le_trans BE.out.size K3.size)
        have RR : Hid (yabRel w n acc v4 (.int .i64 ((k : Int) + 1)) w4) := yab_step w wr w3 w4 n k acc v4 hlt K3 BE.out hO4 hB4
        clear K3 hO3 hL3 rng hO4 hB4
        go_wp2_with (at_builtin; refine wpList_append_go rfl _ _ 31 31 rfl _ _ rfl rfl hr4 ?_)
        go_roundw
        case rel => exact RR.out
        case measure => simp [intOf]; omega
      · obtain rfl : k = n := by omega
        obtain ⟨a', cap, rfl, hA⟩ := own_slice OW.out (fun j _ => ximg_byte _ _)
        go_wp2_with fail
        exact bodyPost_ret (v := .tuple #[.slice a' (k * 128) cap, .int .i64 0]) (by simp [results, Try.results15]) rfl ⟨a', cap, rfl, hA, BE.out⟩
  · have e1 : bcode n = 3 := if_neg hn
    have e2 : bsize n = 0 := if_neg hn
    rw [e1, e2]
    have m3 : (8 : Int) < n := by omega
    clear e1 e2
    go_enter Try.func15, Try.ntmps15
    go_wp2_with fail
    exact bodyPost_ret (v := .tuple #[.slice none 0 0, .int .i64 3]) (by simp [results, Try.results15]) rfl ⟨none, 0, rfl, .inl ⟨rfl, .inl rfl⟩, Below.refl _ _⟩
set_option maxRecDepth 100000 in
set_option maxHeartbeats 1000000 in
theorem qTransfers_bytes (a : Option Addr) (n C : Nat) (acc : Nat → Fld) (w : World) (h : RArg w a n acc) :
    Calls Try.prog 17 #[.slice a n C] w (QbPost w n acc) := by
  unfold QbPost
  by_cases hn : n ≤ 8
  · have e1 : bcode n = 0 := if_pos hn
    have e2 : bsize n = n * 128 := if_pos hn
    rw [e1, e2]
    have HR : Hid (RArg w a n acc) := h
    have ST : Hid (yabRel w n acc (.slice none 0 0) (.int .i64 0) w) := ⟨0, by omega, rfl, by rw [Nat.zero_mul]; exact Own.nil _ _ _, Below.refl _ _⟩
    have m3 : ¬ (8 : Int) < n := by omega
    clear h e1 e2
    go_enter Try.func17, Try.ntmps17
    go_wp2_with fail
    go_loopw [4, 5] (fun v i wr => yabRel w n acc v i wr) (fun _ i _ => n - (intOf i).toNat)
    case atStart => exact ST.out
    case round =>
      obtain ⟨k, hk, rfl, hown, bel⟩ := hrel
      clear ST
      have BE : Hid (Below w.heap.size w wr) := bel
      have OW : Hid (Own wr w.heap.size _ (k * 128) (batF acc)) := hown
      clear hown
      by_cases hlt : k < n
      · have i1 : (k : Int) < n := by omega
        rcases HR.out with h0 | ⟨b, off, rfl, R⟩
        · omega
        have hb := R.2.2
        have rng : wr.rangeAt b (off + k * 19) (acc k).cells := fun j v hj => (bel.cell (p := ⟨b, off + k * 19 + j, none⟩) hb).trans (R.1 k hlt j v hj)
        clear bel R
        go_wp2_with (refine wpList_load_mid (P := Try.prog) rfl 30 (.tmp 18) rfl b (off + k * 19) rfl (acc k).cells _ rng Try.underlying30 rfl (by kernel_rfl) ?_)
        refine (qtbytes_any (acc k) _ (rarg_wf HR.out k hlt)).mono ?_
        rintro e w3 ⟨v3, rfl, hO3, K3⟩
        obtain ⟨g3, cap3, rfl, _, _, hL3⟩ := (hO3.congr (qimg (acc k))).form (by omega) (fun j _ => ximg_byte _ j)
        obtain ⟨v4, w4, hr4, hO4, hB4⟩ := app_arg 31 w3 w.heap.size (k * 128) 128 cap3 _ (some ⟨g3, 0, none⟩) (batF acc) (acc k).img (OW.out.below K3) (Arg.of hL3) (by omega) (Nat.le_trans BE.out.size K3.size)
        have RR : Hid (yabRel w n acc v4 (.int .i64 ((k : Int) + 1)) w4) := yab_step w wr w3 w4 n k acc v4 hlt K3 BE.out hO4 hB4
        clear K3 hO3 hL3 rng hO4 hB4
        go_wp2_with (at_builtin; refine wpList_append_go rfl _ _ 31 31 rfl _ _ rfl rfl hr4 ?_)
        go_roundw
        case rel => exact RR.out
        case measure => simp [intOf]; omega
      · obtain rfl : k = n := by omega
        obtain ⟨a', cap, rfl, hA⟩ := own_slice OW.out (fun j _ => ximg_byte _ _)
        go_wp2_with fail
        exact bodyPost_ret (v := .tuple #[.slice a' (k * 128) cap, .int .i64 0]) (by simp [results, Try.results17]) rfl ⟨a', cap, rfl, hA, BE.out⟩
  · have e1 : bcode n = 3 := if_neg hn
    have e2 : bsize n = 0 := if_neg hn
    rw [e1, e2]
    have m3 : (8 : Int) < n := by omega
    clear e1 e2
    go_enter Try.func17, Try.ntmps17
    go_wp2_with fail
    exact bodyPost_ret (v := .tuple #[.slice none 0 0, .int .i64 3]) (by simp [results, Try.results17]) rfl ⟨none, 0, rfl, .inl ⟨rfl, .inl rfl⟩, Below.refl _ _⟩
end Go.Proofs.Ytlcnhmlcmedonaa
namespace Go.Proofs.Ytlcnhmlcmedonaa
open Go.RowKit
/-- What holds at the head of the loop. -/
def yrdRel (T : TypeId) (w : World) (c : Nat) (f : Nat → Int) (v i : Value) (wr : World) : Prop := ∃ k : Nat, k ≤ c ∧ i = .int .i64 ((k : Int) * 128) ∧ wr.ownsRow w.heap.size T 19 v k (recsL (fun i => recOf fun t => f (i * 128 + t)) k) ∧ Below w.heap.size w wr
theorem RArg.of_none {w : World} (a : Option Addr) (acc : Nat → Fld) : RArg w a 0 acc := .inl rfl
theorem infoAccount : (Try.prog.info? 28).map (fun i => (i.zero, i.size, i.bytes)) = some (some (.agg zero19.toArray), 19, 128) := by kernel_rfl
set_option maxRecDepth 100000 in
theorem bs1Account (R : Fld) (w : World) : (Instr.buildSlice 39 1 #[(0, .agg R.cells.toArray)]).run Try.prog w = .ok (.slice (some ⟨w.heap.size, 0, none⟩) 1 1) (w.alloc (.cells R.cells.toArray 28)) := by
  simp [go_sem, Fld.cells]
theorem bs1Account_run {a : Act} {w : World} {o : Oper} (x : Operand) (hop : o.op = .buildSlice 39 1 #[(0, x)]) (R : Fld) (hx : a.eval x = .agg R.cells.toArray) : (execOp a.eval o).run Try.prog w = .ok (.value (.slice (some ⟨w.heap.size, 0, none⟩) 1 1)) (w.alloc (.cells R.cells.toArray 28)) := by
  unfold execOp
  simp [hop, hx, bs1Account, Result.andThen]
theorem bs0Account_run {a : Act} {w : World} {o : Oper} (hop : o.op = .buildSlice 39 0 #[]) : (execOp a.eval o).run Try.prog w = .ok (.value (.slice (some ⟨w.heap.size, 0, none⟩) 0 0)) (w.alloc (.cells #[] 28)) := by
  obtain ⟨ie, hie, _, _, _⟩ := info_parts infoAccount
  have hu : Try.prog.underlying 39 = some (.slice 28) := Try.underlying39
  unfold execOp
  simp [hop, Instr.buildSlice, run_underlying hu, sizeOf, typeInfo, hie, newRow, Instr.fill, Result.andThen]
  congr 2
  exact Array.eq_empty_of_size_eq_zero (by simp)
/-- append of records that lie somewhere onto records that the call has made. -/
theorem appAccount (W : World) (base n m C : Nat) (v : Value) (a : Option Addr) (acc new : Nat → Fld) (ho : W.ownsRow base 28 19 v n (recsL acc n)) (hA : RArg W a m new) (hm : n + m ≤ 1000) (hbase : base ≤ W.heap.size) (hn : ∀ i, i < m → new i = acc (n + i)) :
    ∃ v' W', (Builtin.append_ #[39, 39] 39 #[v, .slice a m C]).run Try.prog W = .ok v' W' ∧ W'.ownsRow base 28 19 v' (n + m) (recsL acc (n + m)) ∧ Below base W W' := by
  obtain ⟨i0, hi, hz0, hz1, hz2⟩ := info_parts infoAccount
  have cat : ∀ m, (∀ i, i < m → new i = acc (n + i)) → recsL acc n ++ recsL new m = recsL acc (n + m) := by
    intro m
    induction m with
    | zero => intro _; simp [recsL]
    | succ m ih => intro h; rw [recsL_succ, ← List.append_assoc, ih (fun i hi => h i (by omega)), h m (by omega), ← recsL_succ]; rfl
  have main : ∀ ad : Addr, (∀ j u, (recsL new m)[j]? = some u → W.cell? (ad.add j) = some u) → ∃ v' W', (Builtin.append_ #[39, 39] 39 #[v, .slice (some ad) m C]).run Try.prog W = .ok v' W' ∧ W'.ownsRow base 28 19 v' (n + m) (recsL acc (n + m)) ∧ Below base W W' := by
    intro ad hnews
    obtain ⟨v', W', h1, h2, h3, _⟩ := run_append_own (P := Try.prog) W base 39 39 28 i0 (.agg zero19.toArray) 19 128 Try.underlying39 hi hz0 hz1 hz2 rfl (by decide) v n (recsL acc n) ho ad m C (recsL new m) (by rw [recsL_len]) hnews (recsL_one _ _) (by unfold maxLen; omega) (by omega) hbase
    rw [cat m hn] at h2
    exact ⟨v', W', h1, h2, (Below.refl _ _).grown h3 hbase (fun k hk => (World.ownsRow.lt ho k hk).1)⟩
  by_cases h0 : m = 0
  · subst h0
    cases a with
    | some p => exact main p (fun j u hj => by simp [recsL] at hj)
    | none =>
      refine ⟨v, W, ?_, ho, Below.refl _ _⟩
      rcases ho.2 with ⟨rfl, rfl⟩ | ⟨g, cap, cur, rfl, _, _, hnc, _⟩
      · simp [Builtin.append_, run_underlying Try.underlying39, sizeOf, typeInfo, hi, Builtin.lenOf, Builtin.firstCells]
      · simp [Builtin.append_, run_underlying Try.underlying39, sizeOf, typeInfo, hi, Builtin.lenOf, Builtin.firstCells, hnc, storeCells]
  · rcases hA with h | ⟨b, off, rfl, hR⟩
    · exact absurd h h0
    · refine main ⟨b, off, none⟩ (fun j u hj => ?_)
      have hj' : j < m * 19 := by
        rcases Nat.lt_or_ge j (m * 19) with q | q
        · exact q
        · rw [List.getElem?_eq_none (by rw [recsL_len]; omega)] at hj; cases hj
      have e := recsL_at new m (j / 19) (j % 19) (by omega) (by omega)
      rw [show j / 19 * 19 + j % 19 = j by omega, hj] at e
      have := hR.1 (j / 19) (by omega) (j % 19) u e.symm
      rw [show off + j / 19 * 19 + j % 19 = off + j by omega] at this
      rw [Addr.add_mid]
      exact this
set_option maxRecDepth 100000 in
set_option maxHeartbeats 1000000 in
theorem qReadAccounts_any (a : Option Addr) (n C : Nat) (f : Nat → Int) (w : World) (h : Arg w a n f) (hC : n ≤ C) (hn : n ≤ 1000000) :
    Calls Try.prog 21 #[.slice a n C] w (RcPost w n f) := by
  by_cases hz : rcode n = 0
  · have ⟨c, hc, h8⟩ : ∃ c, n = c * 128 ∧ c ≤ 8 := by
      unfold rcode at hz
      split at hz
      · omega
      · split at hz
        · omega
        · exact ⟨n / 128, by omega, by omega⟩
    have e2 : rcnt n = c := by
      unfold rcnt
      rw [if_neg (by omega), if_neg (by omega)]
      omega
    unfold RcPost
    rw [hz, e2]
    have HZ : Hid (rcode n = 0) := hz
    subst hc
    have HA : Hid (Arg w a (c * 128) f) := h
    have ST : Hid (yrdRel 28 w c f (.slice none 0 0) (.int .i64 0) w) := ⟨0, by omega, rfl, World.ownsRow_nil w _ _ _, Below.refl _ _⟩
    clear h e2 hz
    go_enter Try.func21, Try.ntmps21
    go_wp2_with (go_at_call 40; refine (wrong_any a (c * 128) C _ hn).mono ?_; rintro e w1 ⟨rfl, rfl⟩; rw [HZ.out])
    go_loopw [5, 6] (fun v i wr => yrdRel 28 w1 c f v i wr) (fun _ i _ => c * 128 - (intOf i).toNat)
    case atStart => exact ST.out
    case round =>
      obtain ⟨k, hk, rfl, hown, bel⟩ := hrel
      clear ST
      have BE : Hid (Below w1.heap.size w1 wr) := bel
      by_cases hlt : k < c
      · have i0 : (k : Int) * 128 < (c : Int) * 128 := by omega
        obtain ⟨b, off, rfl, L⟩ : ∃ b off, a = some ⟨b, off, none⟩ ∧ Lies w1 b off (c * 128) f := by
          rcases HA.out with ⟨h, _⟩ | ⟨_, b, off, rfl, L⟩
          · omega
          · exact ⟨b, off, rfl, L⟩
        have LX : Hid (Lies wr b (off + k * 128) 128 (fun j => f (k * 128 + j))) := (L.below bel).part (k * 128) 128 (by omega)
        have OW : Hid (wr.ownsRow w1.heap.size 28 19 _ k (recsL (fun i => recOf fun t => f (i * 128 + t)) k)) := hown
        obtain ⟨R, hR⟩ : ∃ R, (recOf fun j => f (k * 128 + j)) = R := ⟨_, rfl⟩
        have HR : Hid ((recOf fun j => f (k * 128 + j)) = R) := hR
        have RW : Hid R.wf := by rw [← hR]; exact arecOf_wf _ LX.out.2.1
        have i1 : (0 : Int) ≤ (k : Int) * 128 := by omega
        have i2 : ((k : Int) * 128).toNat = k * 128 := by omega
        have i4 : ¬ C = k * 128 := by omega
        have i6 : (k : Int) * 128 + 128 ≤ C := by omega
        have i7 : ((k : Int) * 128 + 128).toNat = k * 128 + 128 := by omega
        have i8 : k * 128 + 128 - k * 128 = 128 := by omega
        have i9 : wrap64 ((k : Int) * 128 + 128) = (k : Int) * 128 + 128 := by unfold wrap64; omega
        have i10 : IntKind.i64.wrap ((k : Int) * 128 + 128) = (k : Int) * 128 + 128 := by rw [IntKind.wrap_i64]; omega
        clear L bel hown hR
        go_wp2_with (first
          | (go_at_call 41; refine (qreadAccount_ok b (off + k * 128) _ (fun j => f (k * 128 + j)) _ LX.out (by omega)).mono ?_; rintro e w3 ⟨rfl, K3⟩; rw [HR.out])
          | (refine wpList_store_rec rfl 28 (.tmp 7) _ rfl w3.heap.size 0 zero19 R.cells rfl rfl (Rec19.new w3 28 zero19) rfl (by kernel_rfl) R.cells_one ?_; intro W4 R4 G4
             have D4 : Below wr.heap.size wr W4 := K3.trans ((((Below.refl _ w3).alloc (Nat.le_refl _) (.cells zero19.toArray 28)).trans (G4.below (Nat.le_refl _) (by simp))).mono K3.size)
             obtain ⟨v5, W5, hr5, hO5, hB5⟩ := appAccount (W4.alloc (.cells R.cells.toArray 28)) w1.heap.size k 1 1 _ (some ⟨W4.heap.size, 0, none⟩) (fun i => recOf fun t => f (i * 128 + t)) (fun _ => R) ((own_below OW.out D4).alloc _)
               (.inr ⟨_, 0, rfl, fun i hi j v hj => by rw [show i = 0 by omega, World.cell?_alloc_at _ _ _ _ rfl]; simpa using hj, fun _ _ => RW.out, by simp⟩) (by omega) (by simp; have := BE.out.size; have := D4.size; omega) (fun i hi => by rw [show k + i = k by omega]; exact HR.out.symm)
             have RR : Hid (yrdRel 28 w1 c f v5 (.int .i64 ((k : Int) * 128 + 128)) W5) := ⟨k + 1, by omega, by congr 1; omega, hO5, BE.out.trans (((D4.alloc D4.size _).mono BE.out.size).trans hB5)⟩
             clear D4 K3 G4 hO5 hB5)
          | (refine wpList_load_rec rfl 28 (.tmp 7) rfl w3.heap.size 0 R.cells rfl _ Try.underlying28 rfl (by kernel_rfl) R4 ?_)
          | (refine wpList_step_go rfl (bs1Account_run (.tmp 30) rfl R rfl) ?_)
          | (at_builtin; refine wpList_append_go rfl _ _ 39 39 rfl _ _ rfl rfl hr5 ?_))
        go_roundw
        case rel => exact RR.out
        case measure => simp [intOf]; omega
      · have i0 : ¬ (k : Int) * 128 < (c : Int) * 128 := by omega
        obtain rfl : k = c := by omega
        obtain ⟨a', cap, rfl, hA⟩ := rarg_of_own hown (fun i hi => arecOf_wf _ (fun j hj => by
          rcases HA.out with ⟨h, _⟩ | ⟨_, b, off, rfl, L⟩
          · omega
          · exact L.2.1 _ (by omega)))
        go_wp2_with fail
        exact bodyPost_ret (v := .tuple #[.slice a' k cap, .int .i64 0]) (by simp [results, Try.results21]) rfl ⟨a', ⟨cap, rfl⟩, hA, BE.out⟩
  · have e2 : rcnt n = 0 := by
      unfold rcnt
      unfold rcode at hz
      split
      · rfl
      · rename_i q
        rw [if_neg q] at hz
        split
        · rfl
        · rename_i q'
          rw [if_neg q'] at hz
          exact absurd rfl hz
    unfold RcPost
    rw [e2]
    obtain ⟨c, hc⟩ : ∃ c, rcode n = c := ⟨_, rfl⟩
    have HZ : Hid (rcode n = c) := hc
    have hz' : ¬ c = 0 := by rw [← hc]; exact hz
    rw [hc]
    clear hc hz e2 h
    go_enter Try.func21, Try.ntmps21
    go_wp2_with (go_at_call 40; refine (wrong_any a n C _ hn).mono ?_; rintro e w1 ⟨rfl, rfl⟩; rw [HZ.out])
    exact bodyPost_ret (v := .tuple #[.slice none 0 0, .int .i64 c]) (by simp [results, Try.results21]) rfl ⟨none, 0, rfl, .inl rfl, Below.refl _ _⟩
theorem pReadAccounts_any (g n C : Nat) (f : Nat → Int) (w : World) (h : Lies w g 0 n f) (hC : n ≤ C) (hn : n ≤ 1000000) :
    Calls Try.prog 20 #[.slice (some ⟨g, 0, none⟩) n C] w (RcPost w n f) := by
  unfold RcPost rcode rcnt
  by_cases h1 : n % 128 ≠ 0
  · rw [if_pos h1, if_pos h1]
    refine (readAccounts_bytes _ n C w h1).mono ?_
    rintro e w' ⟨rfl, hB⟩
    exact ⟨none, 0, rfl, .inl rfl, hB⟩
  · rw [if_neg h1, if_neg h1]
    by_cases h2 : 1024 < n
    · rw [if_pos h2, if_pos h2]
      refine (readAccounts_long _ n C w (by omega) (by omega) hn).mono ?_
      rintro e w' ⟨rfl, hB⟩
      exact ⟨none, 0, rfl, .inl rfl, hB⟩
    · rw [if_neg h2, if_neg h2]
      obtain ⟨c, rfl⟩ : ∃ c, n = c * 128 := ⟨n / 128, by omega⟩
      rw [show c * 128 / 128 = c by omega]
      exact ReadAccounts_lies g 0 c C f _ w h (by omega) hC (fun _ _ => rfl) (fun i hi => arecOf_wf _ (fun j hj => h.2.1 _ (by omega)))
theorem infoTransfer : (Try.prog.info? 30).map (fun i => (i.zero, i.size, i.bytes)) = some (some (.agg zero19.toArray), 19, 128) := by kernel_rfl
set_option maxRecDepth 100000 in
theorem bs1Transfer (R : Fld) (w : World) : (Instr.buildSlice 40 1 #[(0, .agg R.cells.toArray)]).run Try.prog w = .ok (.slice (some ⟨w.heap.size, 0, none⟩) 1 1) (w.alloc (.cells R.cells.toArray 30)) := by
  simp [go_sem, Fld.cells]
theorem bs1Transfer_run {a : Act} {w : World} {o : Oper} (x : Operand) (hop : o.op = .buildSlice 40 1 #[(0, x)]) (R : Fld) (hx : a.eval x = .agg R.cells.toArray) : (execOp a.eval o).run Try.prog w = .ok (.value (.slice (some ⟨w.heap.size, 0, none⟩) 1 1)) (w.alloc (.cells R.cells.toArray 30)) := by
  unfold execOp
  simp [hop, hx, bs1Transfer, Result.andThen]
theorem bs0Transfer_run {a : Act} {w : World} {o : Oper} (hop : o.op = .buildSlice 40 0 #[]) : (execOp a.eval o).run Try.prog w = .ok (.value (.slice (some ⟨w.heap.size, 0, none⟩) 0 0)) (w.alloc (.cells #[] 30)) := by
  obtain ⟨ie, hie, _, _, _⟩ := info_parts infoTransfer
  have hu : Try.prog.underlying 40 = some (.slice 30) := Try.underlying40
  unfold execOp
  simp [hop, Instr.buildSlice, run_underlying hu, sizeOf, typeInfo, hie, newRow, Instr.fill, Result.andThen]
  congr 2
  exact Array.eq_empty_of_size_eq_zero (by simp)
/-- append of records that lie somewhere onto records that the call has made. -/
theorem appTransfer (W : World) (base n m C : Nat) (v : Value) (a : Option Addr) (acc new : Nat → Fld) (ho : W.ownsRow base 30 19 v n (recsL acc n)) (hA : RArg W a m new) (hm : n + m ≤ 1000) (hbase : base ≤ W.heap.size) (hn : ∀ i, i < m → new i = acc (n + i)) :
    ∃ v' W', (Builtin.append_ #[40, 40] 40 #[v, .slice a m C]).run Try.prog W = .ok v' W' ∧ W'.ownsRow base 30 19 v' (n + m) (recsL acc (n + m)) ∧ Below base W W' := by
  obtain ⟨i0, hi, hz0, hz1, hz2⟩ := info_parts infoTransfer
  have cat : ∀ m, (∀ i, i < m → new i = acc (n + i)) → recsL acc n ++ recsL new m = recsL acc (n + m) := by
    intro m
    induction m with
    | zero => intro _; simp [recsL]
    | succ m ih => intro h; rw [recsL_succ, ← List.append_assoc, ih (fun i hi => h i (by omega)), h m (by omega), ← recsL_succ]; rfl
  have main : ∀ ad : Addr, (∀ j u, (recsL new m)[j]? = some u → W.cell? (ad.add j) = some u) → ∃ v' W', (Builtin.append_ #[40, 40] 40 #[v, .slice (some ad) m C]).run Try.prog W = .ok v' W' ∧ W'.ownsRow base 30 19 v' (n + m) (recsL acc (n + m)) ∧ Below base W W' := by
    intro ad hnews
    obtain ⟨v', W', h1, h2, h3, _⟩ := run_append_own (P := Try.prog) W base 40 40 30 i0 (.agg zero19.toArray) 19 128 Try.underlying40 hi hz0 hz1 hz2 rfl (by decide) v n (recsL acc n) ho ad m C (recsL new m) (by rw [recsL_len]) hnews (recsL_one _ _) (by unfold maxLen; omega) (by omega) hbase
    rw [cat m hn] at h2
    exact ⟨v', W', h1, h2, (Below.refl _ _).grown h3 hbase (fun k hk => (World.ownsRow.lt ho k hk).1)⟩
  by_cases h0 : m = 0
  · subst h0
    cases a with
    | some p => exact main p (fun j u hj => by simp [recsL] at hj)
    | none =>
      refine ⟨v, W, ?_, ho, Below.refl _ _⟩
      rcases ho.2 with ⟨rfl, rfl⟩ | ⟨g, cap, cur, rfl, _, _, hnc, _⟩
      · simp [Builtin.append_, run_underlying Try.underlying40, sizeOf, typeInfo, hi, Builtin.lenOf, Builtin.firstCells]
      · simp [Builtin.append_, run_underlying Try.underlying40, sizeOf, typeInfo, hi, Builtin.lenOf, Builtin.firstCells, hnc, storeCells]
  · rcases hA with h | ⟨b, off, rfl, hR⟩
    · exact absurd h h0
    · refine main ⟨b, off, none⟩ (fun j u hj => ?_)
      have hj' : j < m * 19 := by
        rcases Nat.lt_or_ge j (m * 19) with q | q
        · exact q
        · rw [List.getElem?_eq_none (by rw [recsL_len]; omega)] at hj; cases hj
      have e := recsL_at new m (j / 19) (j % 19) (by omega) (by omega)
      rw [show j / 19 * 19 + j % 19 = j by omega, hj] at e
      have := hR.1 (j / 19) (by omega) (j % 19) u e.symm
      rw [show off + j / 19 * 19 + j % 19 = off + j by omega] at this
      rw [Addr.add_mid]
      exact this
set_option maxRecDepth 100000 in
set_option maxHeartbeats 1000000 in
theorem qReadTransfers_any (a : Option Addr) (n C : Nat) (f : Nat → Int) (w : World) (h : Arg w a n f) (hC : n ≤ C) (hn : n ≤ 1000000) :
    Calls Try.prog 23 #[.slice a n C] w (RcPost w n f) := by
  by_cases hz : rcode n = 0
  · have ⟨c, hc, h8⟩ : ∃ c, n = c * 128 ∧ c ≤ 8 := by
      unfold rcode at hz
      split at hz
      · omega
      · split at hz
        · omega
        · exact ⟨n / 128, by omega, by omega⟩
    have e2 : rcnt n = c := by
      unfold rcnt
      rw [if_neg (by omega), if_neg (by omega)]
      omega
    unfold RcPost
    rw [hz, e2]
    have HZ : Hid (rcode n = 0) := hz
    subst hc
    have HA : Hid (Arg w a (c * 128) f) := h
    have ST : Hid (yrdRel 30 w c f (.slice none 0 0) (.int .i64 0) w) := ⟨0, by omega, rfl, World.ownsRow_nil w _ _ _, Below.refl _ _⟩
    clear h e2 hz
    go_enter Try.func23, Try.ntmps23
    go_wp2_with (go_at_call 40; refine (wrong_any a (c * 128) C _ hn).mono ?_; rintro e w1 ⟨rfl, rfl⟩; rw [HZ.out])
    go_loopw [5, 6] (fun v i wr => yrdRel 30 w1 c f v i wr) (fun _ i _ => c * 128 - (intOf i).toNat)
    case atStart => exact ST.out
    case round =>
      obtain ⟨k, hk, rfl, hown, bel⟩ := hrel
      clear ST
      have BE : Hid (Below w1.heap.size w1 wr) := bel
      by_cases hlt : k < c
      · have i0 : (k : Int) * 128 < (c : Int) * 128 := by omega
        obtain ⟨b, off, rfl, L⟩ : ∃ b off, a = some ⟨b, off, none⟩ ∧ Lies w1 b off (c * 128) f := by
          rcases HA.out with ⟨h, _⟩ | ⟨_, b, off, rfl, L⟩
          · omega
          · exact ⟨b, off, rfl, L⟩
        have LX : Hid (Lies wr b (off + k * 128) 128 (fun j => f (k * 128 + j))) := (L.below bel).part (k * 128) 128 (by omega)
        have OW : Hid (wr.ownsRow w1.heap.size 30 19 _ k (recsL (fun i => recOf fun t => f (i * 128 + t)) k)) := hown
        obtain ⟨R, hR⟩ : ∃ R, (recOf fun j => f (k * 128 + j)) = R := ⟨_, rfl⟩
        have HR : Hid ((recOf fun j => f (k * 128 + j)) = R) := hR
        have RW : Hid R.wf := by rw [← hR]; exact arecOf_wf _ LX.out.2.1
        have i1 : (0 : Int) ≤ (k : Int) * 128 := by omega
        have i2 : ((k : Int) * 128).toNat = k * 128 := by omega
        have i4 : ¬ C = k * 128 := by omega
        have i6 : (k : Int) * 128 + 128 ≤ C := by omega
        have i7 : ((k : Int) * 128 + 128).toNat = k * 128 + 128 := by omega
        have i8 : k * 128 + 128 - k * 128 = 128 := by omega
        have i9 : wrap64 ((k : Int) * 128 + 128) = (k : Int) * 128 + 128 := by unfold wrap64; omega
        have i10 : IntKind.i64.wrap ((k : Int) * 128 + 128) = (k : Int) * 128 + 128 := by rw [IntKind.wrap_i64]; omega
        clear L bel hown hR
        go_wp2_with (first
          | (go_at_call 44; refine (qreadTransfer_ok b (off + k * 128) _ (fun j => f (k * 128 + j)) _ LX.out (by omega)).mono ?_; rintro e w3 ⟨rfl, K3⟩; rw [HR.out])
          | (refine wpList_store_rec rfl 30 (.tmp 7) _ rfl w3.heap.size 0 zero19 R.cells rfl rfl (Rec19.new w3 30 zero19) rfl (by kernel_rfl) R.cells_one ?_; intro W4 R4 G4
             have D4 : Below wr.heap.size wr W4 := K3.trans ((((Below.refl _ w3).alloc (Nat.le_refl _) (.cells zero19.toArray 30)).trans (G4.below (Nat.le_refl _) (by simp))).mono K3.size)
             obtain ⟨v5, W5, hr5, hO5, hB5⟩ := appTransfer (W4.alloc (.cells R.cells.toArray 30)) w1.heap.size k 1 1 _ (some ⟨W4.heap.size, 0, none⟩) (fun i => recOf fun t => f (i * 128 + t)) (fun _ => R) ((own_below OW.out D4).alloc _)
               (.inr ⟨_, 0, rfl, fun i hi j v hj => by rw [show i = 0 by omega, World.cell?_alloc_at _ _ _ _ rfl]; simpa using hj, fun _ _ => RW.out, by simp⟩) (by omega) (by simp; have := BE.out.size; have := D4.size; omega) (fun i hi => by rw [show k + i = k by omega]; exact HR.out.symm)
             have RR : Hid (yrdRel 30 w1 c f v5 (.int .i64 ((k : Int) * 128 + 128)) W5) := ⟨k + 1, by omega, by congr 1; omega, hO5, BE.out.trans (((D4.alloc D4.size _).mono BE.out.size).trans hB5)⟩
             clear D4 K3 G4 hO5 hB5)
          | (refine wpList_load_rec rfl 30 (.tmp 7) rfl w3.heap.size 0 R.cells rfl _ Try.underlying30 rfl (by kernel_rfl) R4 ?_)
          | (refine wpList_step_go rfl (bs1Transfer_run (.tmp 30) rfl R rfl) ?_)
          | (at_builtin; refine wpList_append_go rfl _ _ 40 40 rfl _ _ rfl rfl hr5 ?_))
        go_roundw
        case rel => exact RR.out
        case measure => simp [intOf]; omega
      · have i0 : ¬ (k : Int) * 128 < (c : Int) * 128 := by omega
        obtain rfl : k = c := by omega
        obtain ⟨a', cap, rfl, hA⟩ := rarg_of_own hown (fun i hi => arecOf_wf _ (fun j hj => by
          rcases HA.out with ⟨h, _⟩ | ⟨_, b, off, rfl, L⟩
          · omega
          · exact L.2.1 _ (by omega)))
        go_wp2_with fail
        exact bodyPost_ret (v := .tuple #[.slice a' k cap, .int .i64 0]) (by simp [results, Try.results23]) rfl ⟨a', ⟨cap, rfl⟩, hA, BE.out⟩
  · have e2 : rcnt n = 0 := by
      unfold rcnt
      unfold rcode at hz
      split
      · rfl
      · rename_i q
        rw [if_neg q] at hz
        split
        · rfl
        · rename_i q'
          rw [if_neg q'] at hz
          exact absurd rfl hz
    unfold RcPost
    rw [e2]
    obtain ⟨c, hc⟩ : ∃ c, rcode n = c := ⟨_, rfl⟩
    have HZ : Hid (rcode n = c) := hc
    have hz' : ¬ c = 0 := by rw [← hc]; exact hz
    rw [hc]
    clear hc hz e2 h
    go_enter Try.func23, Try.ntmps23
    go_wp2_with (go_at_call 40; refine (wrong_any a n C _ hn).mono ?_; rintro e w1 ⟨rfl, rfl⟩; rw [HZ.out])
    exact bodyPost_ret (v := .tuple #[.slice none 0 0, .int .i64 c]) (by simp [results, Try.results23]) rfl ⟨none, 0, rfl, .inl rfl, Below.refl _ _⟩
theorem pReadTransfers_any (g n C : Nat) (f : Nat → Int) (w : World) (h : Lies w g 0 n f) (hC : n ≤ C) (hn : n ≤ 1000000) :
    Calls Try.prog 22 #[.slice (some ⟨g, 0, none⟩) n C] w (RcPost w n f) := by
  unfold RcPost rcode rcnt
  by_cases h1 : n % 128 ≠ 0
  · rw [if_pos h1, if_pos h1]
    refine (readTransfers_bytes _ n C w h1).mono ?_
    rintro e w' ⟨rfl, hB⟩
    exact ⟨none, 0, rfl, .inl rfl, hB⟩
  · rw [if_neg h1, if_neg h1]
    by_cases h2 : 1024 < n
    · rw [if_pos h2, if_pos h2]
      refine (readTransfers_long _ n C w (by omega) (by omega) hn).mono ?_
      rintro e w' ⟨rfl, hB⟩
      exact ⟨none, 0, rfl, .inl rfl, hB⟩
    · rw [if_neg h2, if_neg h2]
      obtain ⟨c, rfl⟩ : ∃ c, n = c * 128 := ⟨n / 128, by omega⟩
      rw [show c * 128 / 128 = c by omega]
      exact ReadTransfers_lies g 0 c C f _ w h (by omega) hC (fun _ _ => rfl) (fun i hi => arecOf_wf _ (fun j hj => h.2.1 _ (by omega)))
end Go.Proofs.Ytlcnhmlcmedonaa
namespace Go.Proofs.Ytlcnhmlcmedonaa
open Go.RowKit
theorem lst_lo {B : Nat} {W : World} {L : Lst} {F : Nat → Int} (h : L.ok B W F) : ∀ q, L.a = some q → B ≤ q.block := by
  intro q hq
  rcases h.2.2.2 with ⟨h, _⟩ | ⟨g, h, hB, _⟩
  · rw [h] at hq; cases hq
  · rw [h] at hq; cases hq; exact hB
theorem lst_weak {B B' : Nat} {W : World} {L : Lst} {F : Nat → Int} (h : L.ok B W F) (hb : B' ≤ B) : L.ok B' W F := by
  refine ⟨h.1, h.2.1, h.2.2.1, ?_⟩
  rcases h.2.2.2 with h | ⟨g, h, hB, hR⟩
  · exact .inl h
  · exact .inr ⟨g, h, Nat.le_trans hb hB, hR⟩
theorem lst_below {B : Nat} {W W' : World} {L : Lst} {F : Nat → Int} (h : L.ok B W F) (hb : Below W.heap.size W W') : L.ok B W' F := by
  refine ⟨h.1, h.2.1, h.2.2.1, ?_⟩
  rcases h.2.2.2 with h | ⟨g, h, hB, hR⟩
  · exact .inl h
  · exact .inr ⟨g, h, hB, hR.below hb⟩
theorem lst_arg {B : Nat} {W : World} {a : Option Addr} {n : Nat} {F : Nat → Int} (h : Lst.ok B W ⟨a, n, n⟩ F) : Arg W a n F := by
  rcases h.2.2.2 with ⟨h1, h2⟩ | ⟨g, h1, _, hR⟩
  · exact .inl ⟨h2, .inl h1⟩
  · have e : a = some ⟨g, 0, none⟩ := h1
    rw [e]
    exact Arg.of (hR.lies h.2.2.1)
theorem lent_lies {w W : World} {a : Option Addr} {g n : Nat} {f : Nat → Int} (h : Arg w a n f) (hR : IRow W g .u8 (n + 3) (lentF n f 3)) : Lies W g 0 n f :=
  ⟨fun j hj => by rw [Nat.zero_add, hR.1 j (by omega), lentF_low n f 3 j hj], h.bytes, hR.2.2⟩
theorem own0 (T : TypeId) (w : World) (acc : Nat → Fld) : (w.alloc (.cells #[] T)).ownsRow w.heap.size T 19 (.slice (some ⟨w.heap.size, 0, none⟩) 0 0) 0 (recsL acc 0) := by
  have := World.ownsRow_lit (e := T) (size := 19) (base := w.heap.size) w #[] 0 (Nat.le_refl _) (by unfold maxLen; omega) rfl
  simpa [recsL] using this
theorem rcnt_le (n : Nat) : rcnt n ≤ 1000 := by
  unfold rcnt
  split
  · omega
  · split
    · omega
    · omega
set_option maxRecDepth 100000 in
set_option maxHeartbeats 400000 in
theorem batches_long (a0 a1 a2 : Option Addr) (n0 C0 n1 C1 n2 C2 : Nat) (w : World) (hl : 20 < n0 ∨ 20 < n1 ∨ 3000 < n2) :
    Calls Try.prog 4 #[.slice a0 n0 C0, .slice a1 n1 C1, .slice a2 n2 C2] w fun e w' => e = .returned (.bool true) ∧ Below w.heap.size w w' := by
  by_cases h0 : 20 < n0
  · have e0 : (20 : Int) < n0 := by omega
    clear hl
    go_enter Try.func4, Try.ntmps4
    go_wp2_with fail
    go_ret
    exact ⟨rfl, Below.refl _ _⟩
  · have e0 : ¬ (20 : Int) < n0 := by omega
    by_cases h1 : 20 < n1
    · have e1 : (20 : Int) < n1 := by omega
      clear hl
      go_enter Try.func4, Try.ntmps4
      go_wp2_with fail
      go_ret
      exact ⟨rfl, Below.refl _ _⟩
    · have e1 : ¬ (20 : Int) < n1 := by omega
      have e2 : (3000 : Int) < n2 := by omega
      clear hl
      go_enter Try.func4, Try.ntmps4
      go_wp2_with fail
      go_ret
      exact ⟨rfl, Below.refl _ _⟩
set_option maxRecDepth 100000 in
set_option maxHeartbeats 1000000 in
theorem batches_short (a0 a1 a2 : Option Addr) (n0 C0 n1 C1 n2 C2 : Nat) (acc tra : Nat → Fld) (f : Nat → Int) (w : World) (h0 : RArg w a0 n0 acc) (h1 : RArg w a1 n1 tra) (h2 : Arg w a2 n2 f) (hC : n2 ≤ C2) (e0 : n0 ≤ 20) (e1 : n1 ≤ 20) (e2 : n2 ≤ 3000) :
    Calls Try.prog 4 #[.slice a0 n0 C0, .slice a1 n1 C1, .slice a2 n2 C2] w fun e w' => e = .returned (.bool true) ∧ Below w.heap.size w w' := by
  have H0 : Hid (RArg w a0 n0 acc) := h0
  have H1 : Hid (RArg w a1 n1 tra) := h1
  have H2 : Hid (Arg w a2 n2 f) := h2
  clear h0 h1 h2
  have g0' : ¬ (20 : Int) < n0 := by omega
  have g1' : ¬ (20 : Int) < n1 := by omega
  have g2' : ¬ (3000 : Int) < n2 := by omega
  have tokAccount : True := trivial
  have tokTransfer : True := trivial
  have rcle := rcnt_le n2
  go_enter Try.func4, Try.ntmps4
  go_wp2_with (first
    | (go_at_call 13; refine (lent_any a2 n2 C2 f _ H2.out (by omega)).mono ?_; rintro e W1 ⟨g, rfl, hg, hG, K1⟩
       have EW1 : Hid (Below w.heap.size w W1) := K1
       have GW1 : Hid (IRow W1 g .u8 (n2 + 3) (lentF n2 f 3)) := hG
       have g0 : w.heap.size ≤ g := hg
       clear hg hG K1)
    | (have _t := tokAccount; clear _t; refine wpList_step_go rfl (bs0Account_run rfl) ?_
       obtain ⟨vW2, W2, hrW2, hO, hB⟩ := appAccount (W1.alloc (.cells #[] 28)) W1.heap.size 0 n0 C0 (.slice (some ⟨W1.heap.size, 0, none⟩) 0 0) a0 acc acc (own0 28 W1 acc) ((H0.out.below EW1.out).below ((Below.refl _ _).alloc (Nat.le_refl _) _)) (by omega) (by simp) (fun i _ => by rw [Nat.zero_add])
       rw [Nat.zero_add] at hO
       obtain ⟨p2, c2, rfl, hA⟩ := rarg_of_own hO (rarg_wf H0.out)
       have K : Below W1.heap.size W1 W2 := ((Below.refl _ _).alloc (Nat.le_refl _) _).trans hB
       have EW2 : Hid (Below w.heap.size w W2) := EW1.out.trans (K.mono EW1.out.size)
       have GW2 : Hid (IRow W2 g .u8 (n2 + 3) (lentF n2 f 3)) := GW1.out.below K
       clear EW1 GW1
       have AW2 : Hid (RArg W2 p2 n0 acc) := hA
       clear hO hB hA K tokAccount)
    | (at_builtin; refine wpList_append_go rfl (.tmp 41) (.tmp 42) 39 39 rfl _ _ rfl rfl hrW2 ?_; clear hrW2)
    | (have _t := tokTransfer; clear _t; refine wpList_step_go rfl (bs0Transfer_run rfl) ?_
       obtain ⟨vW3, W3, hrW3, hO, hB⟩ := appTransfer (W2.alloc (.cells #[] 30)) W2.heap.size 0 n1 C1 (.slice (some ⟨W2.heap.size, 0, none⟩) 0 0) a1 tra tra (own0 30 W2 tra) ((H1.out.below EW2.out).below ((Below.refl _ _).alloc (Nat.le_refl _) _)) (by omega) (by simp) (fun i _ => by rw [Nat.zero_add])
       rw [Nat.zero_add] at hO
       obtain ⟨p3, c3, rfl, hA⟩ := rarg_of_own hO (rarg_wf H1.out)
       have K : Below W2.heap.size W2 W3 := ((Below.refl _ _).alloc (Nat.le_refl _) _).trans hB
       have EW3 : Hid (Below w.heap.size w W3) := EW2.out.trans (K.mono EW2.out.size)
       have GW3 : Hid (IRow W3 g .u8 (n2 + 3) (lentF n2 f 3)) := GW2.out.below K
       have AW3 : Hid (RArg W3 p2 n0 acc) := AW2.out.below K
       clear EW2 GW2 AW2
       have BW3 : Hid (RArg W3 p3 n1 tra) := hA
       clear hO hB hA K tokTransfer)
    | (at_builtin; refine wpList_append_go rfl (.tmp 44) (.tmp 45) 40 40 rfl _ _ rfl rfl hrW3 ?_; clear hrW3)
    | (go_at_call 14; refine (Accounts_room p2 n0 c2 acc _ AW3.out).mono ?_; rintro e W4 ⟨x4, rfl, hL, hlt, K⟩
       have x4lo : Hid (∀ q, x4 = some q → W3.heap.size ≤ q.block ∧ q.block < W4.heap.size) := fun q hq => ⟨lst_lo hL q hq, hlt q hq⟩
       have hL2 : Lst.ok w.heap.size W4 ⟨x4, bsize n0, bsize n0⟩ (batF acc) := lst_weak hL EW3.out.size
       have gx : Hid (∀ q, x4 = some q → g < q.block) := fun q hq => by have := lst_lo hL q hq; have := GW3.out.2.2; omega
       have EW4 : Hid (Below w.heap.size w W4) := EW3.out.trans (K.mono EW3.out.size)
       have GW4 : Hid (IRow W4 g .u8 (n2 + 3) (lentF n2 f 3)) := GW3.out.below K
       have AW4 : Hid (RArg W4 p2 n0 acc) := AW3.out.below K
       have BW4 : Hid (RArg W4 p3 n1 tra) := BW3.out.below K
       clear EW3 GW3 AW3 BW3
       have XW4 : Hid (Lst.ok w.heap.size W4 ⟨x4, bsize n0, bsize n0⟩ (batF acc)) := hL2
       have XlW4 : Hid (∀ q, x4 = some q → q.block < W4.heap.size) := hlt
       clear hL hL2 hlt K x4lo)
    | (go_at_call 15; refine (qAccounts_bytes a0 n0 C0 acc _ (H0.out.below EW4.out)).mono ?_; rintro e W5 ⟨y5, k5, rfl, hA, K⟩
       have EW5 : Hid (Below w.heap.size w W5) := EW4.out.trans (K.mono EW4.out.size)
       have GW5 : Hid (IRow W5 g .u8 (n2 + 3) (lentF n2 f 3)) := GW4.out.below K
       have AW5 : Hid (RArg W5 p2 n0 acc) := AW4.out.below K
       have BW5 : Hid (RArg W5 p3 n1 tra) := BW4.out.below K
       have XW5 : Hid (Lst.ok w.heap.size W5 ⟨x4, bsize n0, bsize n0⟩ (batF acc)) := lst_below XW4.out K
       have XlW5 : Hid (∀ q, x4 = some q → q.block < W5.heap.size) := fun q hq => Nat.lt_of_lt_of_le (XlW4.out q hq) K.size
       clear EW4 GW4 AW4 BW4 XW4 XlW4
       have YW5 : Hid (Arg W5 y5 (bsize n0) (batF acc)) := hA
       clear hA K)
    | (go_at_call 16; refine (Transfers_room p3 n1 c3 tra _ BW5.out).mono ?_; rintro e W6 ⟨x6, rfl, hL, hlt, K⟩
       have x6lo : Hid (∀ q, x6 = some q → W5.heap.size ≤ q.block ∧ q.block < W6.heap.size) := fun q hq => ⟨lst_lo hL q hq, hlt q hq⟩
       have hL2 : Lst.ok w.heap.size W6 ⟨x6, bsize n1, bsize n1⟩ (batF tra) := lst_weak hL EW5.out.size
       have gp : Hid (∀ q, x6 = some q → g < q.block) := fun q hq => by have := lst_lo hL q hq; have := GW5.out.2.2; omega
       have xp : Hid (∀ q r, x4 = some q → x6 = some r → q.block < r.block) := fun q r hq hr => by have := lst_lo hL r hr; have := XlW5.out q hq; omega
       have EW6 : Hid (Below w.heap.size w W6) := EW5.out.trans (K.mono EW5.out.size)
       have GW6 : Hid (IRow W6 g .u8 (n2 + 3) (lentF n2 f 3)) := GW5.out.below K
       have AW6 : Hid (RArg W6 p2 n0 acc) := AW5.out.below K
       have BW6 : Hid (RArg W6 p3 n1 tra) := BW5.out.below K
       have XW6 : Hid (Lst.ok w.heap.size W6 ⟨x4, bsize n0, bsize n0⟩ (batF acc)) := lst_below XW5.out K
       have XlW6 : Hid (∀ q, x4 = some q → q.block < W6.heap.size) := fun q hq => Nat.lt_of_lt_of_le (XlW5.out q hq) K.size
       have YW6 : Hid (Arg W6 y5 (bsize n0) (batF acc)) := YW5.out.below K
       clear EW5 GW5 AW5 BW5 XW5 XlW5 YW5
       have PW6 : Hid (Lst.ok w.heap.size W6 ⟨x6, bsize n1, bsize n1⟩ (batF tra)) := hL2
       have PlW6 : Hid (∀ q, x6 = some q → q.block < W6.heap.size) := hlt
       clear hL hL2 hlt K x6lo)
    | (go_at_call 17; refine (qTransfers_bytes a1 n1 C1 tra _ (H1.out.below EW6.out)).mono ?_; rintro e W7 ⟨y7, k7, rfl, hA, K⟩
       have EW7 : Hid (Below w.heap.size w W7) := EW6.out.trans (K.mono EW6.out.size)
       have GW7 : Hid (IRow W7 g .u8 (n2 + 3) (lentF n2 f 3)) := GW6.out.below K
       have AW7 : Hid (RArg W7 p2 n0 acc) := AW6.out.below K
       have BW7 : Hid (RArg W7 p3 n1 tra) := BW6.out.below K
       have XW7 : Hid (Lst.ok w.heap.size W7 ⟨x4, bsize n0, bsize n0⟩ (batF acc)) := lst_below XW6.out K
       have XlW7 : Hid (∀ q, x4 = some q → q.block < W7.heap.size) := fun q hq => Nat.lt_of_lt_of_le (XlW6.out q hq) K.size
       have YW7 : Hid (Arg W7 y5 (bsize n0) (batF acc)) := YW6.out.below K
       have PW7 : Hid (Lst.ok w.heap.size W7 ⟨x6, bsize n1, bsize n1⟩ (batF tra)) := lst_below PW6.out K
       have PlW7 : Hid (∀ q, x6 = some q → q.block < W7.heap.size) := fun q hq => Nat.lt_of_lt_of_le (PlW6.out q hq) K.size
       clear EW6 GW6 AW6 BW6 XW6 XlW6 YW6 PW6 PlW6
       have QW7 : Hid (Arg W7 y7 (bsize n1) (batF tra)) := hA
       clear hA K)
    | (have _q := YW7; clear _q; go_at_call 8; refine (same_any x4 y5 (bsize n0) (bsize n0) (bsize n0) k5 (batF acc) (batF acc) _ (lst_arg XW7.out) YW7.out).mono ?_; rintro e V ⟨rfl, hV⟩; rw [hV, decide_eq_true rfl]; clear hV V YW7)
    | (have _q := QW7; clear _q; go_at_call 8; refine (same_any x6 y7 (bsize n1) (bsize n1) (bsize n1) k7 (batF tra) (batF tra) _ (lst_arg PW7.out) QW7.out).mono ?_; rintro e V ⟨rfl, hV⟩; rw [hV, decide_eq_true rfl]; clear hV V QW7)
    | (have _q := AW7; clear _q; go_at_call 18; refine (sameAccounts_any p2 a0 n0 c2 C0 acc _ AW7.out (H0.out.below EW7.out) (by omega)).mono ?_; rintro e W8 ⟨rfl, K⟩
       have EW8 : Hid (Below w.heap.size w W8) := EW7.out.trans (K.mono EW7.out.size)
       have GW8 : Hid (IRow W8 g .u8 (n2 + 3) (lentF n2 f 3)) := GW7.out.below K
       have BW8 : Hid (RArg W8 p3 n1 tra) := BW7.out.below K
       have XW8 : Hid (Lst.ok w.heap.size W8 ⟨x4, bsize n0, bsize n0⟩ (batF acc)) := lst_below XW7.out K
       have XlW8 : Hid (∀ q, x4 = some q → q.block < W8.heap.size) := fun q hq => Nat.lt_of_lt_of_le (XlW7.out q hq) K.size
       have PW8 : Hid (Lst.ok w.heap.size W8 ⟨x6, bsize n1, bsize n1⟩ (batF tra)) := lst_below PW7.out K
       have PlW8 : Hid (∀ q, x6 = some q → q.block < W8.heap.size) := fun q hq => Nat.lt_of_lt_of_le (PlW7.out q hq) K.size
       clear EW7 GW7 BW7 XW7 XlW7 PW7 PlW7
       clear K AW7)
    | (have _q := BW8; clear _q; go_at_call 19; refine (sameTransfers_any p3 a1 n1 c3 C1 tra _ BW8.out (H1.out.below EW8.out) (by omega)).mono ?_; rintro e W9 ⟨rfl, K⟩
       have EW9 : Hid (Below w.heap.size w W9) := EW8.out.trans (K.mono EW8.out.size)
       have GW9 : Hid (IRow W9 g .u8 (n2 + 3) (lentF n2 f 3)) := GW8.out.below K
       have XW9 : Hid (Lst.ok w.heap.size W9 ⟨x4, bsize n0, bsize n0⟩ (batF acc)) := lst_below XW8.out K
       have XlW9 : Hid (∀ q, x4 = some q → q.block < W9.heap.size) := fun q hq => Nat.lt_of_lt_of_le (XlW8.out q hq) K.size
       have PW9 : Hid (Lst.ok w.heap.size W9 ⟨x6, bsize n1, bsize n1⟩ (batF tra)) := lst_below PW8.out K
       have PlW9 : Hid (∀ q, x6 = some q → q.block < W9.heap.size) := fun q hq => Nat.lt_of_lt_of_le (PlW8.out q hq) K.size
       clear EW8 GW8 XW8 XlW8 PW8 PlW8
       clear K BW8)
    | (go_at_call 20; refine (pReadAccounts_any g n2 (n2 + 3) f _ (lent_lies H2.out GW9.out) (by omega) (by omega)).mono ?_; rintro e W10 ⟨u10, k10, rfl, hA, K⟩
       have EW10 : Hid (Below w.heap.size w W10) := EW9.out.trans (K.mono EW9.out.size)
       have GW10 : Hid (IRow W10 g .u8 (n2 + 3) (lentF n2 f 3)) := GW9.out.below K
       have XW10 : Hid (Lst.ok w.heap.size W10 ⟨x4, bsize n0, bsize n0⟩ (batF acc)) := lst_below XW9.out K
       have XlW10 : Hid (∀ q, x4 = some q → q.block < W10.heap.size) := fun q hq => Nat.lt_of_lt_of_le (XlW9.out q hq) K.size
       have PW10 : Hid (Lst.ok w.heap.size W10 ⟨x6, bsize n1, bsize n1⟩ (batF tra)) := lst_below PW9.out K
       have PlW10 : Hid (∀ q, x6 = some q → q.block < W10.heap.size) := fun q hq => Nat.lt_of_lt_of_le (PlW9.out q hq) K.size
       clear EW9 GW9 XW9 XlW9 PW9 PlW9
       have UW10 : Hid (RArg W10 u10 (rcnt n2) (fun i => recOf fun t => f (i * 128 + t))) := hA
       clear hA K)
    | (go_at_call 21; refine (qReadAccounts_any a2 n2 C2 f _ (H2.out.below EW10.out) hC (by omega)).mono ?_; rintro e W11 ⟨v11, k11, rfl, hA, K⟩
       have EW11 : Hid (Below w.heap.size w W11) := EW10.out.trans (K.mono EW10.out.size)
       have GW11 : Hid (IRow W11 g .u8 (n2 + 3) (lentF n2 f 3)) := GW10.out.below K
       have XW11 : Hid (Lst.ok w.heap.size W11 ⟨x4, bsize n0, bsize n0⟩ (batF acc)) := lst_below XW10.out K
       have XlW11 : Hid (∀ q, x4 = some q → q.block < W11.heap.size) := fun q hq => Nat.lt_of_lt_of_le (XlW10.out q hq) K.size
       have PW11 : Hid (Lst.ok w.heap.size W11 ⟨x6, bsize n1, bsize n1⟩ (batF tra)) := lst_below PW10.out K
       have PlW11 : Hid (∀ q, x6 = some q → q.block < W11.heap.size) := fun q hq => Nat.lt_of_lt_of_le (PlW10.out q hq) K.size
       have UW11 : Hid (RArg W11 u10 (rcnt n2) (fun i => recOf fun t => f (i * 128 + t))) := UW10.out.below K
       clear EW10 GW10 XW10 XlW10 PW10 PlW10 UW10
       have VW11 : Hid (RArg W11 v11 (rcnt n2) (fun i => recOf fun t => f (i * 128 + t))) := hA
       clear hA K)
    | (go_at_call 22; refine (pReadTransfers_any g n2 (n2 + 3) f _ (lent_lies H2.out GW11.out) (by omega) (by omega)).mono ?_; rintro e W12 ⟨r12, k12, rfl, hA, K⟩
       have EW12 : Hid (Below w.heap.size w W12) := EW11.out.trans (K.mono EW11.out.size)
       have GW12 : Hid (IRow W12 g .u8 (n2 + 3) (lentF n2 f 3)) := GW11.out.below K
       have XW12 : Hid (Lst.ok w.heap.size W12 ⟨x4, bsize n0, bsize n0⟩ (batF acc)) := lst_below XW11.out K
       have XlW12 : Hid (∀ q, x4 = some q → q.block < W12.heap.size) := fun q hq => Nat.lt_of_lt_of_le (XlW11.out q hq) K.size
       have PW12 : Hid (Lst.ok w.heap.size W12 ⟨x6, bsize n1, bsize n1⟩ (batF tra)) := lst_below PW11.out K
       have PlW12 : Hid (∀ q, x6 = some q → q.block < W12.heap.size) := fun q hq => Nat.lt_of_lt_of_le (PlW11.out q hq) K.size
       have UW12 : Hid (RArg W12 u10 (rcnt n2) (fun i => recOf fun t => f (i * 128 + t))) := UW11.out.below K
       have VW12 : Hid (RArg W12 v11 (rcnt n2) (fun i => recOf fun t => f (i * 128 + t))) := VW11.out.below K
       clear EW11 GW11 XW11 XlW11 PW11 PlW11 UW11 VW11
       have RW12 : Hid (RArg W12 r12 (rcnt n2) (fun i => recOf fun t => f (i * 128 + t))) := hA
       clear hA K)
    | (go_at_call 23; refine (qReadTransfers_any a2 n2 C2 f _ (H2.out.below EW12.out) hC (by omega)).mono ?_; rintro e W13 ⟨s13, k13, rfl, hA, K⟩
       have EW13 : Hid (Below w.heap.size w W13) := EW12.out.trans (K.mono EW12.out.size)
       have GW13 : Hid (IRow W13 g .u8 (n2 + 3) (lentF n2 f 3)) := GW12.out.below K
       have XW13 : Hid (Lst.ok w.heap.size W13 ⟨x4, bsize n0, bsize n0⟩ (batF acc)) := lst_below XW12.out K
       have XlW13 : Hid (∀ q, x4 = some q → q.block < W13.heap.size) := fun q hq => Nat.lt_of_lt_of_le (XlW12.out q hq) K.size
       have PW13 : Hid (Lst.ok w.heap.size W13 ⟨x6, bsize n1, bsize n1⟩ (batF tra)) := lst_below PW12.out K
       have PlW13 : Hid (∀ q, x6 = some q → q.block < W13.heap.size) := fun q hq => Nat.lt_of_lt_of_le (PlW12.out q hq) K.size
       have UW13 : Hid (RArg W13 u10 (rcnt n2) (fun i => recOf fun t => f (i * 128 + t))) := UW12.out.below K
       have VW13 : Hid (RArg W13 v11 (rcnt n2) (fun i => recOf fun t => f (i * 128 + t))) := VW12.out.below K
       have RW13 : Hid (RArg W13 r12 (rcnt n2) (fun i => recOf fun t => f (i * 128 + t))) := RW12.out.below K
       clear EW12 GW12 XW12 XlW12 PW12 PlW12 UW12 VW12 RW12
       have SW13 : Hid (RArg W13 s13 (rcnt n2) (fun i => recOf fun t => f (i * 128 + t))) := hA
       clear hA K)
    | (have _q := UW13; clear _q; go_at_call 18; refine (sameAccounts_any u10 v11 (rcnt n2) k10 k11 (fun i => recOf fun t => f (i * 128 + t)) _ UW13.out VW13.out rcle).mono ?_; rintro e W14 ⟨rfl, K⟩
       have EW14 : Hid (Below w.heap.size w W14) := EW13.out.trans (K.mono EW13.out.size)
       have GW14 : Hid (IRow W14 g .u8 (n2 + 3) (lentF n2 f 3)) := GW13.out.below K
       have XW14 : Hid (Lst.ok w.heap.size W14 ⟨x4, bsize n0, bsize n0⟩ (batF acc)) := lst_below XW13.out K
       have XlW14 : Hid (∀ q, x4 = some q → q.block < W14.heap.size) := fun q hq => Nat.lt_of_lt_of_le (XlW13.out q hq) K.size
       have PW14 : Hid (Lst.ok w.heap.size W14 ⟨x6, bsize n1, bsize n1⟩ (batF tra)) := lst_below PW13.out K
       have PlW14 : Hid (∀ q, x6 = some q → q.block < W14.heap.size) := fun q hq => Nat.lt_of_lt_of_le (PlW13.out q hq) K.size
       have RW14 : Hid (RArg W14 r12 (rcnt n2) (fun i => recOf fun t => f (i * 128 + t))) := RW13.out.below K
       have SW14 : Hid (RArg W14 s13 (rcnt n2) (fun i => recOf fun t => f (i * 128 + t))) := SW13.out.below K
       clear EW13 GW13 XW13 XlW13 PW13 PlW13 RW13 SW13
       clear K UW13 VW13)
    | (have _q := RW14; clear _q; go_at_call 19; refine (sameTransfers_any r12 s13 (rcnt n2) k12 k13 (fun i => recOf fun t => f (i * 128 + t)) _ RW14.out SW14.out rcle).mono ?_; rintro e W15 ⟨rfl, K⟩
       have EW15 : Hid (Below w.heap.size w W15) := EW14.out.trans (K.mono EW14.out.size)
       have GW15 : Hid (IRow W15 g .u8 (n2 + 3) (lentF n2 f 3)) := GW14.out.below K
       have XW15 : Hid (Lst.ok w.heap.size W15 ⟨x4, bsize n0, bsize n0⟩ (batF acc)) := lst_below XW14.out K
       have XlW15 : Hid (∀ q, x4 = some q → q.block < W15.heap.size) := fun q hq => Nat.lt_of_lt_of_le (XlW14.out q hq) K.size
       have PW15 : Hid (Lst.ok w.heap.size W15 ⟨x6, bsize n1, bsize n1⟩ (batF tra)) := lst_below PW14.out K
       have PlW15 : Hid (∀ q, x6 = some q → q.block < W15.heap.size) := fun q hq => Nat.lt_of_lt_of_le (PlW14.out q hq) K.size
       clear EW14 GW14 XW14 XlW14 PW14 PlW14
       clear K RW14 SW14)
    | (go_at_call 24; refine (kept_any g a2 n2 C2 f _ (H2.out.below EW15.out) (by omega) GW15.out).mono ?_; rintro e W16 ⟨rfl, K⟩
       have EW16 : Hid (Below w.heap.size w W16) := EW15.out.trans (K.mono EW15.out.size)
       have GW16 : Hid (IRow W16 g .u8 (n2 + 3) (lentF n2 f 3)) := GW15.out.below K
       have XW16 : Hid (Lst.ok w.heap.size W16 ⟨x4, bsize n0, bsize n0⟩ (batF acc)) := lst_below XW15.out K
       have XlW16 : Hid (∀ q, x4 = some q → q.block < W16.heap.size) := fun q hq => Nat.lt_of_lt_of_le (XlW15.out q hq) K.size
       have PW16 : Hid (Lst.ok w.heap.size W16 ⟨x6, bsize n1, bsize n1⟩ (batF tra)) := lst_below PW15.out K
       have PlW16 : Hid (∀ q, x6 = some q → q.block < W16.heap.size) := fun q hq => Nat.lt_of_lt_of_le (PlW15.out q hq) K.size
       clear EW15 GW15 XW15 XlW15 PW15 PlW15
       clear K)
    | (go_at_call 11; refine (three_apart w.heap.size W16 ⟨x4, bsize n0, bsize n0⟩ ⟨x6, bsize n1, bsize n1⟩ ⟨some ⟨g, 0, none⟩, n2, n2 + 3⟩ (batF acc) (batF tra) (lentF n2 f 3) XW16.out PW16.out
          ⟨by show n2 ≤ n2 + 3; omega, by show n2 + 3 ≤ 1000000; omega, fun j _ => lentF_byte n2 f 3 H2.out.bytes j, .inr ⟨g, rfl, g0, GW16.out⟩⟩ EW16.out.size XlW16.out PlW16.out (fun p hp => by cases hp; exact GW16.out.2.2)
          (fun p q hp hq => Nat.ne_of_lt (xp.out p q hp hq)) (fun p q hp hq => by cases hq; exact Nat.ne_of_gt (gx.out p hp)) (fun p q hp hq => by cases hq; exact Nat.ne_of_gt (gp.out p hp))).mono ?_
       rintro e W17 ⟨rfl, K⟩
       have EW17 : Hid (Below w.heap.size w W17) := EW16.out.trans K
       clear K)
    | (go_at_call 12; refine (awake_any _).mono ?_; rintro e W18 ⟨rfl, K⟩
       have EW18 : Hid (Below w.heap.size w W18) := EW17.out.trans (K.mono EW17.out.size)
       clear K))
  go_ret
  exact ⟨rfl, EW18.out⟩
end Go.Proofs.Ytlcnhmlcmedonaa
namespace Go.Proofs.Ytlcnhmlcmedonaa
open Go.ChangeShapes Go.WideShapes Go.ChangeAt Go.RowKit Go.Joins
theorem xword_of_wf {x : Int} (h : (Lit.int .u64 x).wf = true) : Word x := by
  simp [Lit.wf, IntKind.min, IntKind.max, IntKind.signed, IntKind.bits] at h
  exact ⟨by omega, by omega⟩
theorem xb32 {x : Int} (h : (Lit.int .u32 x).wf = true) : 0 ≤ x ∧ x < 4294967296 := by
  simp [Lit.wf, IntKind.min, IntKind.max, IntKind.signed, IntKind.bits] at h
  exact ⟨by omega, by omega⟩
theorem xb16 {x : Int} (h : (Lit.int .u16 x).wf = true) : 0 ≤ x ∧ x < 65536 := by
  simp [Lit.wf, IntKind.min, IntKind.max, IntKind.signed, IntKind.bits] at h
  exact ⟨by omega, by omega⟩
variable {H : Type} {enc : TypeId × Value → H}
theorem xfirst_of {L : List Value} {o n : Nat} {v : Value} (h : (L.drop o).take n = [v]) : L[o]? = some v := by
  have := congrArg (·[0]?) h
  simp only [List.getElem?_take, List.getElem?_drop] at this
  split at this
  · simpa using this
  · simp at this
theorem xint_at {W : World} {L : List Value} {n : Nat} {t : TypeId} {k : IntKind} {y : DataW H × List MemPlace} (o : Nat) (ht : Try.prog.underlying t = some (.int k))
    (h : DataW.trod enc Try.prog W 0 (fun _ => true) true n t ((L.drop o).take (Try.prog.cellsOf t)) = some y) : ∃ x : Int, L[o]? = some (.int k x) ∧ (Lit.int k x).wf = true := by
  obtain ⟨x, e, _, wf⟩ := DataW.trod_int ht h
  exact ⟨x, xfirst_of e, wf⟩
theorem xu128_at {W : World} {L : List Value} {n : Nat} {y : DataW H × List MemPlace} (o : Nat)
    (h : DataW.trod enc Try.prog W 0 (fun _ => true) true n 24 ((L.drop o).take (Try.prog.cellsOf 24)) = some y) : ∃ a b : Int, L[o]? = some (.int .u64 a) ∧ L[o + 1]? = some (.int .u64 b) ∧ Word a ∧ Word b := by
  have h2 : Try.prog.cellsOf 24 = 2 := by kernel_rfl
  rw [h2] at h
  obtain ⟨y0, y1, k, _, _, t0, t1⟩ := trod_struct2 Try.underlying24 h
  obtain ⟨a, e0, _, wa⟩ := DataW.trod_int Try.underlying22 t0
  obtain ⟨b, e1, _, wb⟩ := DataW.trod_int Try.underlying22 t1
  have f0 := xfirst_of e0
  have f1 := xfirst_of e1
  simp only [List.getElem?_take, List.getElem?_drop] at f0 f1
  refine ⟨a, b, by simpa using f0, by simpa using f1, xword_of_wf wa, xword_of_wf wb⟩
set_option maxRecDepth 10000 in
theorem acc_of_cells {W : World} {L : List Value} {n : Nat} {y : DataW H × List MemPlace} (hlen : L.length = 19) (h : DataW.trod enc Try.prog W 0 (fun _ => true) true n 28 L = some y) : ∃ a : Fld, L = a.cells ∧ a.wf := by
  obtain ⟨xs, m, _, _, _, hxl, hel⟩ := DataW.trod_struct Try.underlying28 h
  have hx : xs.length = 13 := hxl
  have g := fun (i : Nat) (f : Field) hfi (hi : i < 13) => (hel i f hfi).trans (List.getElem?_eq_getElem (l := xs) (i := i) (by omega))
  obtain ⟨h0, l0, c0, c1, w0, w1⟩ := xu128_at 0 (g 0 _ rfl (by omega))
  obtain ⟨h1, l1, c2, c3, w2, w3⟩ := xu128_at 2 (g 1 _ rfl (by omega))
  obtain ⟨h2, l2, c4, c5, w4, w5⟩ := xu128_at 4 (g 2 _ rfl (by omega))
  obtain ⟨h3, l3, c6, c7, w6, w7⟩ := xu128_at 6 (g 3 _ rfl (by omega))
  obtain ⟨h4, l4, c8, c9, w8, w9⟩ := xu128_at 8 (g 4 _ rfl (by omega))
  obtain ⟨h5, l5, c10, c11, w10, w11⟩ := xu128_at 10 (g 5 _ rfl (by omega))
  obtain ⟨p, c12, w12⟩ := xint_at 12 Try.underlying22 (g 6 _ rfl (by omega))
  obtain ⟨q, c13, w13⟩ := xint_at 13 Try.underlying25 (g 7 _ rfl (by omega))
  obtain ⟨r, c14, w14⟩ := xint_at 14 Try.underlying25 (g 8 _ rfl (by omega))
  obtain ⟨s, c15, w15⟩ := xint_at 15 Try.underlying25 (g 9 _ rfl (by omega))
  obtain ⟨t, c16, w16⟩ := xint_at 16 Try.underlying26 (g 10 _ rfl (by omega))
  obtain ⟨u, c17, w17⟩ := xint_at 17 Try.underlying26 (g 11 _ rfl (by omega))
  obtain ⟨v, c18, w18⟩ := xint_at 18 Try.underlying22 (g 12 _ rfl (by omega))
  refine ⟨⟨h0, l0, h1, l1, h2, l2, h3, l3, h4, l4, h5, l5, p, q, r, s, t, u, v⟩, ?_, ⟨w0, w1, w2, w3, w4, w5, w6, w7, w8, w9, w10, w11, xword_of_wf w12, xb32 w13, xb32 w14, xb32 w15, xb16 w16, xb16 w17, xword_of_wf w18⟩⟩
  refine List.ext_getElem? fun j => ?_
  match j with
  | 0 => exact c0
  | 1 => exact c1
  | 2 => exact c2
  | 3 => exact c3
  | 4 => exact c4
  | 5 => exact c5
  | 6 => exact c6
  | 7 => exact c7
  | 8 => exact c8
  | 9 => exact c9
  | 10 => exact c10
  | 11 => exact c11
  | 12 => exact c12
  | 13 => exact c13
  | 14 => exact c14
  | 15 => exact c15
  | 16 => exact c16
  | 17 => exact c17
  | 18 => exact c18
  | j + 19 => rw [List.getElem?_eq_none (by omega), List.getElem?_eq_none (by rw [Fld.cells_len]; omega)]
/-- Records that came in, opened. -/
theorem open_accs {W : World} {a : Option Addr} {len cap : Nat} {d : DataW H} {p : List MemPlace} (h : DataW.Trod enc Try.prog W 0 (fun _ => true) true 39 (.slice a len cap) d p) : ∃ acc : Nat → Fld, RArg W a len acc := by
  obtain ⟨fuel, hf⟩ := h
  rcases DataW.trod_slice Try.underlying39 hf with ⟨hcs, _⟩ | ⟨x, l, c, elems, rest, m, _, hcs, _, _, hl, _, hlen, hel, _, _⟩
  · simp [Value.cells] at hcs
    obtain ⟨rfl, rfl, rfl⟩ := hcs
    exact ⟨fun _ => recOf fun _ => 0, .inl rfl⟩
  · simp [Value.cells] at hcs
    obtain ⟨rfl, rfl, rfl⟩ := hcs
    have hc : Try.prog.cellsOf 28 = 19 := by kernel_rfl
    have key : ∀ i, i < len → ∃ r : Fld, (∀ j, j < 19 → W.cell? ((x.add (i * 19)).add j) = r.cells[j]?) ∧ r.wf := by
      intro i hi
      have e := hel i hi
      rw [hc, List.getElem?_eq_getElem (by omega)] at e
      obtain ⟨cs, hcs, htr⟩ := Option.bind_eq_some_iff.1 e
      obtain ⟨_, hlen2, hcell⟩ := World.cells?_some hcs
      obtain ⟨r, rfl, hw⟩ := acc_of_cells hlen2 htr
      exact ⟨r, hcell, hw⟩
    by_cases h0 : len = 0
    · exact ⟨fun _ => recOf fun _ => 0, .inl h0⟩
    obtain ⟨b, off, spot⟩ := x
    obtain ⟨r0, c0, _⟩ := key 0 (by omega)
    have c00 := c0 0 (by omega)
    rw [List.getElem?_eq_getElem (by rw [Fld.cells_len]; omega)] at c00
    have hspot : spot = none := by simpa [Addr.add] using World.cell?_spot c00
    subst hspot
    have key' : ∀ i, i < len → ∃ r : Fld, W.rangeAt b (off + i * 19) r.cells ∧ r.wf := fun i hi => by
      obtain ⟨r, hr, hw⟩ := key i hi
      refine ⟨r, fun j v hj => ?_, hw⟩
      have hj' : j < 19 := by
        rcases Nat.lt_or_ge j 19 with q | q
        · exact q
        · rw [List.getElem?_eq_none (by rw [Fld.cells_len]; omega)] at hj; cases hj
      have := hr j hj'
      rw [Addr.add_mid, Addr.add_mid] at this
      rw [this]
      exact hj
    refine ⟨fun i => if h : i < len then Classical.choose (key' i h) else recOf fun _ => 0, .inr ⟨b, off, rfl, fun i hi => ?_, fun i hi => ?_, ?_⟩⟩
    · have s := Classical.choose_spec (key' i hi)
      simp only [dif_pos hi]
      exact s.1
    · have s := Classical.choose_spec (key' i hi)
      simp only [dif_pos hi]
      exact s.2
    · rw [Addr.add_mid, Addr.add_mid] at c00
      exact World.block_lt_of_cell? W _ c00
set_option maxRecDepth 10000 in
theorem tra_of_cells {W : World} {L : List Value} {n : Nat} {y : DataW H × List MemPlace} (hlen : L.length = 19) (h : DataW.trod enc Try.prog W 0 (fun _ => true) true n 30 L = some y) : ∃ a : Fld, L = a.cells ∧ a.wf := by
  obtain ⟨xs, m, _, _, _, hxl, hel⟩ := DataW.trod_struct Try.underlying30 h
  have hx : xs.length = 13 := hxl
  have g := fun (i : Nat) (f : Field) hfi (hi : i < 13) => (hel i f hfi).trans (List.getElem?_eq_getElem (l := xs) (i := i) (by omega))
  obtain ⟨h0, l0, c0, c1, w0, w1⟩ := xu128_at 0 (g 0 _ rfl (by omega))
  obtain ⟨h1, l1, c2, c3, w2, w3⟩ := xu128_at 2 (g 1 _ rfl (by omega))
  obtain ⟨h2, l2, c4, c5, w4, w5⟩ := xu128_at 4 (g 2 _ rfl (by omega))
  obtain ⟨h3, l3, c6, c7, w6, w7⟩ := xu128_at 6 (g 3 _ rfl (by omega))
  obtain ⟨h4, l4, c8, c9, w8, w9⟩ := xu128_at 8 (g 4 _ rfl (by omega))
  obtain ⟨h5, l5, c10, c11, w10, w11⟩ := xu128_at 10 (g 5 _ rfl (by omega))
  obtain ⟨p, c12, w12⟩ := xint_at 12 Try.underlying22 (g 6 _ rfl (by omega))
  obtain ⟨q, c13, w13⟩ := xint_at 13 Try.underlying25 (g 7 _ rfl (by omega))
  obtain ⟨r, c14, w14⟩ := xint_at 14 Try.underlying25 (g 8 _ rfl (by omega))
  obtain ⟨s, c15, w15⟩ := xint_at 15 Try.underlying25 (g 9 _ rfl (by omega))
  obtain ⟨t, c16, w16⟩ := xint_at 16 Try.underlying26 (g 10 _ rfl (by omega))
  obtain ⟨u, c17, w17⟩ := xint_at 17 Try.underlying26 (g 11 _ rfl (by omega))
  obtain ⟨v, c18, w18⟩ := xint_at 18 Try.underlying22 (g 12 _ rfl (by omega))
  refine ⟨⟨h0, l0, h1, l1, h2, l2, h3, l3, h4, l4, h5, l5, p, q, r, s, t, u, v⟩, ?_, ⟨w0, w1, w2, w3, w4, w5, w6, w7, w8, w9, w10, w11, xword_of_wf w12, xb32 w13, xb32 w14, xb32 w15, xb16 w16, xb16 w17, xword_of_wf w18⟩⟩
  refine List.ext_getElem? fun j => ?_
  match j with
  | 0 => exact c0
  | 1 => exact c1
  | 2 => exact c2
  | 3 => exact c3
  | 4 => exact c4
  | 5 => exact c5
  | 6 => exact c6
  | 7 => exact c7
  | 8 => exact c8
  | 9 => exact c9
  | 10 => exact c10
  | 11 => exact c11
  | 12 => exact c12
  | 13 => exact c13
  | 14 => exact c14
  | 15 => exact c15
  | 16 => exact c16
  | 17 => exact c17
  | 18 => exact c18
  | j + 19 => rw [List.getElem?_eq_none (by omega), List.getElem?_eq_none (by rw [Fld.cells_len]; omega)]
/-- Records that came in, opened. -/
theorem open_tras {W : World} {a : Option Addr} {len cap : Nat} {d : DataW H} {p : List MemPlace} (h : DataW.Trod enc Try.prog W 0 (fun _ => true) true 40 (.slice a len cap) d p) : ∃ acc : Nat → Fld, RArg W a len acc := by
  obtain ⟨fuel, hf⟩ := h
  rcases DataW.trod_slice Try.underlying40 hf with ⟨hcs, _⟩ | ⟨x, l, c, elems, rest, m, _, hcs, _, _, hl, _, hlen, hel, _, _⟩
  · simp [Value.cells] at hcs
    obtain ⟨rfl, rfl, rfl⟩ := hcs
    exact ⟨fun _ => recOf fun _ => 0, .inl rfl⟩
  · simp [Value.cells] at hcs
    obtain ⟨rfl, rfl, rfl⟩ := hcs
    have hc : Try.prog.cellsOf 30 = 19 := by kernel_rfl
    have key : ∀ i, i < len → ∃ r : Fld, (∀ j, j < 19 → W.cell? ((x.add (i * 19)).add j) = r.cells[j]?) ∧ r.wf := by
      intro i hi
      have e := hel i hi
      rw [hc, List.getElem?_eq_getElem (by omega)] at e
      obtain ⟨cs, hcs, htr⟩ := Option.bind_eq_some_iff.1 e
      obtain ⟨_, hlen2, hcell⟩ := World.cells?_some hcs
      obtain ⟨r, rfl, hw⟩ := tra_of_cells hlen2 htr
      exact ⟨r, hcell, hw⟩
    by_cases h0 : len = 0
    · exact ⟨fun _ => recOf fun _ => 0, .inl h0⟩
    obtain ⟨b, off, spot⟩ := x
    obtain ⟨r0, c0, _⟩ := key 0 (by omega)
    have c00 := c0 0 (by omega)
    rw [List.getElem?_eq_getElem (by rw [Fld.cells_len]; omega)] at c00
    have hspot : spot = none := by simpa [Addr.add] using World.cell?_spot c00
    subst hspot
    have key' : ∀ i, i < len → ∃ r : Fld, W.rangeAt b (off + i * 19) r.cells ∧ r.wf := fun i hi => by
      obtain ⟨r, hr, hw⟩ := key i hi
      refine ⟨r, fun j v hj => ?_, hw⟩
      have hj' : j < 19 := by
        rcases Nat.lt_or_ge j 19 with q | q
        · exact q
        · rw [List.getElem?_eq_none (by rw [Fld.cells_len]; omega)] at hj; cases hj
      have := hr j hj'
      rw [Addr.add_mid, Addr.add_mid] at this
      rw [this]
      exact hj
    refine ⟨fun i => if h : i < len then Classical.choose (key' i h) else recOf fun _ => 0, .inr ⟨b, off, rfl, fun i hi => ?_, fun i hi => ?_, ?_⟩⟩
    · have s := Classical.choose_spec (key' i hi)
      simp only [dif_pos hi]
      exact s.1
    · have s := Classical.choose_spec (key' i hi)
      simp only [dif_pos hi]
      exact s.2
    · rw [Addr.add_mid, Addr.add_mid] at c00
      exact World.block_lt_of_cell? W _ c00
end Go.Proofs.Ytlcnhmlcmedonaa
namespace Go.Proofs.Ytlcnhmlcmedonaa
open Go.ChangeShapes Go.WideShapes Go.ChangeAt Go.RowKit Go.Joins
theorem batches_any (a0 a1 a2 : Option Addr) (n0 C0 n1 C1 n2 C2 : Nat) (acc tra : Nat → Fld) (f : Nat → Int) (w : World) (h0 : RArg w a0 n0 acc) (h1 : RArg w a1 n1 tra) (h2 : Arg w a2 n2 f) (hC : n2 ≤ C2) :
    Calls Try.prog 4 #[.slice a0 n0 C0, .slice a1 n1 C1, .slice a2 n2 C2] w fun e w' => e = .returned (.bool true) ∧ Below w.heap.size w w' := by
  by_cases l : 20 < n0 ∨ 20 < n1 ∨ 3000 < n2
  · exact batches_long a0 a1 a2 n0 C0 n1 C1 n2 C2 w l
  · exact batches_short a0 a1 a2 n0 C0 n1 C1 n2 C2 acc tra f w h0 h1 h2 hC (by omega) (by omega) (by omega)
set_option maxRecDepth 100000 in
theorem batches_lifted (os : Os) (started : os.Started) (H : Type) (enc : TypeId × Value → H) :
    ReturnsInHanded {} Try.checked os 4 .any (Rows.recordBatchesSpec.pre6 enc Try.prog Try.f4 Rows.recordBatchesRow.domain false) (Rows.recordBatchesSpec.post enc Try.prog Try.f4 false true false false) := by
  refine returnsInHanded_of_change (C := Try.checked) own_knob started (by kernel_rfl) Try.func4
    (ChangeSpec.witness6 (enc := enc) (C := Try.checked) false ⟨#[], #[.slice none 0 0, .slice none 0 0, .slice none 0 0], []⟩ 8 (by kernel_rfl) (by kernel_rfl) (by kernel_rfl) (by kernel_rfl)) ?_
  intro W base args ds gs before hval0 hW hcnd _
  have hval : ∀ (j : Nat) t v, Try.f4.params[j]? = some t → args[j]? = some v → Value.okWide Try.prog W .any base t v := hval0
  have hW' := hW
  obtain ⟨p, q, hA0, hV, rfl, hfz, hnd⟩ := hW
  have hA : DataW.TrodAll enc Try.prog W 0 (fun _ => true) true Try.f4.params.toList args.toList ds p := hA0
  rw [Try.params4] at hA hval
  obtain ⟨v0, v1, v2, d0, d1, d2, p0, p1, p2, rfl, rfl, rfl, h0, h1, h2⟩ := trodAll_three hA
  obtain ⟨rfl, rfl⟩ := trodVars_none hV
  have k0 := h0
  have k1 := h1
  have k2 := h2
  have lt0 : ∀ x ∈ p0, x.block < W.heap.size := by obtain ⟨m, hm⟩ := k0; exact DataW.trod_lt m _ _ _ hm
  have lt1 : ∀ x ∈ p1, x.block < W.heap.size := by obtain ⟨m, hm⟩ := k1; exact DataW.trod_lt m _ _ _ hm
  have lt2 : ∀ x ∈ p2, x.block < W.heap.size := by obtain ⟨m, hm⟩ := k2; exact DataW.trod_lt m _ _ _ hm
  obtain ⟨a0, len0, cap0, rfl⟩ := okWide_slice Try.underlying39 (hval 0 39 v0 rfl rfl)
  obtain ⟨a1, len1, cap1, rfl⟩ := okWide_slice Try.underlying40 (hval 1 40 v1 rfl rfl)
  obtain ⟨a2, len2, cap2, rfl⟩ := okWide_slice Try.underlying31 (hval 2 31 v2 rfl rfl)
  obtain ⟨acc, r0⟩ := open_accs h0
  obtain ⟨tra, r1⟩ := open_tras h1
  obtain ⟨z2, r2⟩ := open_row h2
  clear hA0 hval0
  refine (batches_any a0 a1 a2 len0 cap0 len1 cap1 len2 cap2 acc tra _ W r0 r1 r2.arg r2.cap).mono fun e W' ⟨he, bel⟩ => ?_
  subst he
  exact ⟨_, rfl, _, _, _, [], _, [], hW', trodAll_mk1 (shut_bool Try.underlying4 _), trodAll_mk3 (Below.trod laid_out (by kernel_rfl) (of_decide_eq_true (by kernel_rfl)) k0 bel lt0) (Below.trod laid_out (by kernel_rfl) (of_decide_eq_true (by kernel_rfl)) k1 bel lt1) (Below.trod laid_out (by kernel_rfl) (of_decide_eq_true (by kernel_rfl)) k2 bel lt2), rfl, bel.frame _, fun h => by cases h⟩

theorem batches_holds : Rows.RecordBatchesSaid :=
  OpenClaim.holds_of_wide 4 Try.f4 rfl rfl rfl rfl rfl rfl rfl ⟨rfl, rfl, rfl, rfl, rfl⟩ rfl rfl rfl rfl rfl (by kernel_rfl) Try.func4 (by kernel_rfl)
    (of_decide_eq_true (by kernel_rfl)) (by unfold Func.isWrapper; first | (rw [if_pos (by decide +kernel)]; kernel_rfl) | (rw [if_neg (by decide +kernel)]; exact ⟨rfl, rfl⟩))
    (fun os started H enc _ => batches_lifted os started H enc)
#print axioms batches_holds
end Go.Proofs.Ytlcnhmlcmedonaa
