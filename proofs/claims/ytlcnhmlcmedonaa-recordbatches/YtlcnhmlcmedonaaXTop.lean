/-
  Walks, not a claim by itself: record.ReadAccounts and record.ReadTransfers of a batch's bytes. By the verifier.
-/
import Derived.Test.YtlcnhmlcmedonaaXRecs
import Derived.Test.YtlcnhmlcmedonaaXBatch
import Derived.Test.YtlcnhmlcmedonaaBNil
import Derived.Test.YtlcnhmlcmedonaaBNilA
namespace Go.Proofs.Ytlcnhmlcmedonaa
open Go.RowKit
theorem recOf_of (f : Nat → Int) (a : Fld) (ha : a.wf) (hf : ∀ j, j < 128 → f j = a.img j) : recOf f = a := by
  obtain ⟨k0, k1, k2, k3, k4, k5, k6, k7, k8, k9, k10, k11, k12, k13, k14, k15, k16, k17, k18⟩ := ha
  unfold recOf
  rw [hi_back (fun j => f (0 + j)) a.h0 a.l0 (fun j hj => (hf _ (by omega)).trans (img_0 a j hj)) k0, lo_back (fun j => f (0 + j)) a.h0 a.l0 (fun j hj => (hf _ (by omega)).trans (img_0 a j hj)) k1, hi_back (fun j => f (16 + j)) a.h1 a.l1 (fun j hj => (hf _ (by omega)).trans (img_1 a j hj)) k2, lo_back (fun j => f (16 + j)) a.h1 a.l1 (fun j hj => (hf _ (by omega)).trans (img_1 a j hj)) k3, hi_back (fun j => f (32 + j)) a.h2 a.l2 (fun j hj => (hf _ (by omega)).trans (img_2 a j hj)) k4, lo_back (fun j => f (32 + j)) a.h2 a.l2 (fun j hj => (hf _ (by omega)).trans (img_2 a j hj)) k5, hi_back (fun j => f (48 + j)) a.h3 a.l3 (fun j hj => (hf _ (by omega)).trans (img_3 a j hj)) k6, lo_back (fun j => f (48 + j)) a.h3 a.l3 (fun j hj => (hf _ (by omega)).trans (img_3 a j hj)) k7, hi_back (fun j => f (64 + j)) a.h4 a.l4 (fun j hj => (hf _ (by omega)).trans (img_4 a j hj)) k8, lo_back (fun j => f (64 + j)) a.h4 a.l4 (fun j hj => (hf _ (by omega)).trans (img_4 a j hj)) k9, hi_back (fun j => f (80 + j)) a.h5 a.l5 (fun j hj => (hf _ (by omega)).trans (img_5 a j hj)) k10, lo_back (fun j => f (80 + j)) a.h5 a.l5 (fun j hj => (hf _ (by omega)).trans (img_5 a j hj)) k11, ps_back (fun j => f (96 + j)) a.p 8 18446744073709551616 (by decide) (fun j hj => (hf _ (by omega)).trans (img_6 a j hj)) k12.1 k12.2, ps_back (fun j => f (104 + j)) a.q 4 4294967296 (by decide) (fun j hj => (hf _ (by omega)).trans (img_7 a j hj)) k13.1 k13.2, ps_back (fun j => f (108 + j)) a.r 4 4294967296 (by decide) (fun j hj => (hf _ (by omega)).trans (img_8 a j hj)) k14.1 k14.2, ps_back (fun j => f (112 + j)) a.s 4 4294967296 (by decide) (fun j hj => (hf _ (by omega)).trans (img_9 a j hj)) k15.1 k15.2, ps_back (fun j => f (116 + j)) a.t 2 65536 (by decide) (fun j hj => (hf _ (by omega)).trans (img_10 a j hj)) k16.1 k16.2, ps_back (fun j => f (118 + j)) a.u 2 65536 (by decide) (fun j hj => (hf _ (by omega)).trans (img_11 a j hj)) k17.1 k17.2, ps_back (fun j => f (120 + j)) a.v 8 18446744073709551616 (by decide) (fun j hj => (hf _ (by omega)).trans (img_12 a j hj)) k18.1 k18.2]
theorem xbyt_byte (x : Int) (i : Nat) : 0 ≤ byt x i ∧ byt x i < 256 := by unfold byt; omega
theorem xwide_byte (h l : Int) (j : Nat) : 0 ≤ wide h l j ∧ wide h l j < 256 := by
  unfold wide
  split
  · exact xbyt_byte _ _
  · exact xbyt_byte _ _
theorem xlay_byte {f g : Nat → Int} {off n : Nat} (hf : ∀ j, 0 ≤ f j ∧ f j < 256) (hg : ∀ j, 0 ≤ g j ∧ g j < 256) (j : Nat) : 0 ≤ lay f off n g j ∧ lay f off n g j < 256 := by
  unfold lay
  split
  · exact hf _
  · split
    · exact hg _
    · exact hf _
theorem ximg_byte (a : Fld) : ∀ j, 0 ≤ a.img j ∧ a.img j < 256 :=
  xlay_byte (xlay_byte (xlay_byte (xlay_byte (xlay_byte (xlay_byte (xlay_byte (xlay_byte (xlay_byte (xlay_byte (xlay_byte (xlay_byte (xlay_byte (fun _ => by omega) (xwide_byte _ _)) (xwide_byte _ _)) (xwide_byte _ _)) (xwide_byte _ _)) (xwide_byte _ _)) (xwide_byte _ _)) (xbyt_byte _)) (xbyt_byte _)) (xbyt_byte _)) (xbyt_byte _)) (xbyt_byte _)) (xbyt_byte _)) (xbyt_byte _)
theorem RArg.congr {w : World} {a : Option Addr} {n : Nat} {f g : Nat → Fld} (h : RArg w a n f) (e : ∀ i, i < n → f i = g i) : RArg w a n g := by
  rcases h with h | ⟨b, off, rfl, h⟩
  · exact .inl h
  · exact .inr ⟨b, off, rfl, fun i hi => by rw [← e i hi]; exact h.1 i hi, fun i hi => by rw [← e i hi]; exact h.2.1 i hi, h.2.2⟩
/-- What ReadAccounts and ReadTransfers answer. -/
def RdPost (w : World) (c : Nat) (acc : Nat → Fld) (e : Ending) (w' : World) : Prop := ∃ a cap, e = .returned (.tuple #[.slice a c cap, .int .i64 0]) ∧ RArg w' a c acc ∧ Below w.heap.size w w'
/-- A batch's bytes. -/
def batF (acc : Nat → Fld) (j : Nat) : Int := (acc (j / 128)).img (j % 128)
theorem batF_rec (acc : Nat → Fld) (i : Nat) (hw : (acc i).wf) : (recOf fun t => batF acc (i * 128 + t)) = acc i :=
  recOf_of _ _ hw fun j hj => by unfold batF; rw [show (i * 128 + j) / 128 = i by omega, show (i * 128 + j) % 128 = j by omega]
theorem bat_lies {w : World} {n g : Nat} {cur : Array Value} {acc : Nat → Fld} (hg : w.heap[g]? = some (.cells cur 5 (0, 0))) (htake : cur.toList.take (n * 128 * 1) = batCells acc n) : Lies w g 0 (n * 128) (batF acc) := by
  refine ⟨fun j hj => ?_, fun j _ => ximg_byte _ _, (Array.getElem?_eq_some_iff.1 hg).1⟩
  rw [Nat.zero_add, cell_of_row w g j cur 5 (0, 0) hg]
  have e : (batCells acc n)[j]? = some (.int .u8 (batF acc j)) := cl_at .u8 (n * 128) (batF acc) j hj
  rw [← htake, List.getElem?_take, if_pos (by omega)] at e
  simpa using e
theorem ReadAccounts_lies (b off c C : Nat) (f : Nat → Int) (acc : Nat → Fld) (w : World) (h : Lies w b off (c * 128) f) (hc : c ≤ 8) (hC : c * 128 ≤ C) (ha : ∀ i, i < c → (recOf fun t => f (i * 128 + t)) = acc i) (hw : ∀ i, i < c → (acc i).wf) :
    Calls Try.prog 20 #[.slice (some ⟨b, off, none⟩) (c * 128) C] w (RdPost w c acc) := by
  have main := readBatchA_ok b off c C f w h hc hC
  have M : Hid (Calls Try.prog 38 #[.slice (some ⟨b, off, none⟩) (c * 128) C, .func (.func 39) #[] #[]] w (RBPost w c f)) := main
  clear main h
  go_enter Try.func20, Try.ntmps20
  go_wp2_with fail
  refine M.out.mono ?_
  rintro e w1 ⟨v, rfl, h1, h2⟩
  obtain ⟨a, cap, rfl, hA⟩ := recs_of_own h1 (fun i hi => by rw [ha i hi]; exact hw i hi)
  go_wp2_with fail
  exact bodyPost_ret (v := .tuple #[.slice a c cap, .int .i64 0]) (by simp [results, Try.results20]) rfl ⟨a, cap, rfl, hA.congr ha, h2⟩
theorem ReadAccounts_bat (w : World) (base n : Nat) (v : Value) (acc : Nat → Fld) (h : w.ownsRow base 5 1 v (n * 128) (batCells acc n)) (hn : n ≤ 8) (hw : ∀ i, i < n → (acc i).wf) :
    Calls Try.prog 20 #[v] w (RdPost w n acc) := by
  rcases h.2 with ⟨rfl, h0⟩ | ⟨g, cap, cur, rfl, hbg, hg, hnc, _, _, htake⟩
  · obtain rfl : n = 0 := by omega
    refine (readAccounts_nil w).mono ?_
    rintro e w' ⟨b, rfl, hB⟩
    exact ⟨_, 0, rfl, .inl rfl, hB⟩
  · exact ReadAccounts_lies g 0 n cap (batF acc) acc w (bat_lies hg htake) hn hnc (fun i hi => batF_rec acc i (hw i hi)) hw
theorem ReadTransfers_lies (b off c C : Nat) (f : Nat → Int) (acc : Nat → Fld) (w : World) (h : Lies w b off (c * 128) f) (hc : c ≤ 8) (hC : c * 128 ≤ C) (ha : ∀ i, i < c → (recOf fun t => f (i * 128 + t)) = acc i) (hw : ∀ i, i < c → (acc i).wf) :
    Calls Try.prog 22 #[.slice (some ⟨b, off, none⟩) (c * 128) C] w (RdPost w c acc) := by
  have main := readBatchT_ok b off c C f w h hc hC
  have M : Hid (Calls Try.prog 42 #[.slice (some ⟨b, off, none⟩) (c * 128) C, .func (.func 43) #[] #[]] w (RBPostT w c f)) := main
  clear main h
  go_enter Try.func22, Try.ntmps22
  go_wp2_with fail
  refine M.out.mono ?_
  rintro e w1 ⟨v, rfl, h1, h2⟩
  obtain ⟨a, cap, rfl, hA⟩ := recs_of_own h1 (fun i hi => by rw [ha i hi]; exact hw i hi)
  go_wp2_with fail
  exact bodyPost_ret (v := .tuple #[.slice a c cap, .int .i64 0]) (by simp [results, Try.results22]) rfl ⟨a, cap, rfl, hA.congr ha, h2⟩
theorem ReadTransfers_bat (w : World) (base n : Nat) (v : Value) (acc : Nat → Fld) (h : w.ownsRow base 5 1 v (n * 128) (batCells acc n)) (hn : n ≤ 8) (hw : ∀ i, i < n → (acc i).wf) :
    Calls Try.prog 22 #[v] w (RdPost w n acc) := by
  rcases h.2 with ⟨rfl, h0⟩ | ⟨g, cap, cur, rfl, hbg, hg, hnc, _, _, htake⟩
  · obtain rfl : n = 0 := by omega
    refine (readTransfers_nil w).mono ?_
    rintro e w' ⟨b, rfl, hB⟩
    exact ⟨_, 0, rfl, .inl rfl, hB⟩
  · exact ReadTransfers_lies g 0 n cap (batF acc) acc w (bat_lies hg htake) hn hnc (fun i hi => batF_rec acc i (hw i hi)) hw
end Go.Proofs.Ytlcnhmlcmedonaa
