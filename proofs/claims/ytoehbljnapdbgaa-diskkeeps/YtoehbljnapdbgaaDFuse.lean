/-
  Walks, not a claim by itself: Fuse. By the verifier.
-/
import Derived.Test.YtoehbljnapdbgaaDThree
namespace Go.Proofs.Ytoehbljnapdbgaa
open Go.RowKit Go.Maps
/-- A list of disks: n of them, behind one another in block b. -/
def DList (W : World) (b : Nat) (n : Nat) (ds : Nat → Nat) : Prop := (∀ i, i < n → W.cell? ⟨b, i, none⟩ = some (.pointer (some ⟨ds i, 0, none⟩))) ∧ b < W.heap.size
theorem DList.off {W W' : World} {b n : Nat} {bs : List Nat} {ds : Nat → Nat} (h : DList W b n ds) (hO : Off bs W W') (hb : b ∉ bs) : DList W' b n ds :=
  ⟨fun i hi => (hO.cell (p := ⟨b, i, none⟩) h.2 hb).trans (h.1 i hi), Nat.lt_of_lt_of_le h.2 hO.size⟩
theorem DiskAt.fused {W : World} {d s m q : Nat} {D : Dsk} {u : Bool} (h : DiskAt W d s m D) : DiskAt ((W.setCell ⟨d, 5, none⟩ (.bool u)).setCell ⟨d, 4, none⟩ (.pointer (some ⟨q, 0, none⟩))) d s m { D with out := u, fz := some q } := by
  have O : Off [d] W ((W.setCell ⟨d, 5, none⟩ (.bool u)).setCell ⟨d, 4, none⟩ (.pointer (some ⟨q, 0, none⟩))) := (Off.set _ _ _ (by simp)).trans (Off.set _ _ _ (by simp))
  exact { h with recd := (h.recd.put 5 (.bool u)).put 4 (.pointer (some ⟨q, 0, none⟩)), row := h.row.off O (by have := h.ds; simp; omega), map := h.map.off O (by have := h.dm; simp; omega) }
/-- n disks, no two of which share a block, none of them with a fuse. -/
structure Disks (W : World) (n : Nat) (ds ss ms : Nat → Nat) (Ds : Nat → Dsk) : Prop where
  at' : ∀ i, i < n → DiskAt W (ds i) (ss i) (ms i) (Ds i)
  apart : ∀ i j, i < n → j < n → i ≠ j → ds i ≠ ds j ∧ ds i ≠ ss j ∧ ds i ≠ ms j
theorem Disks.below {W W' : World} {n : Nat} {ds ss ms : Nat → Nat} {Ds : Nat → Dsk} (h : Disks W n ds ss ms Ds) (hB : Below W.heap.size W W') : Disks W' n ds ss ms Ds := ⟨fun i hi => (h.at' i hi).below hB, h.apart⟩
/-- The first k disks have the fuse q. -/
def fusedK (Ds : Nat → Dsk) (q k : Nat) (i : Nat) : Dsk := if i < k then { Ds i with out := false, fz := some q } else Ds i
theorem fusedK_succ (Ds : Nat → Dsk) (q k i : Nat) : fusedK Ds q (k + 1) i = if i = k then { Ds i with out := false, fz := some q } else fusedK Ds q k i := by
  unfold fusedK
  by_cases e : i = k
  · subst e
    rw [if_pos (by omega), if_pos rfl]
  · rw [if_neg e]
    by_cases g : i < k
    · rw [if_pos g, if_pos (by omega)]
    · rw [if_neg g, if_neg (by omega)]
def fz1Rel (w : World) (n : Nat) (i : Value) (wr : World) : Prop := ∃ k : Nat, k ≤ n ∧ i = .int .i64 k ∧ w = wr
def fz2Rel (W : World) (q b n : Nat) (x : Int) (ds ss ms : Nat → Nat) (Ds : Nat → Dsk) (i : Value) (wr : World) : Prop := ∃ k : Nat, k ≤ n ∧ i = .int .i64 k ∧ Disks wr n ds ss ms (fusedK Ds q k) ∧ DList wr b n ds ∧ FuseIs wr (some q) x false ∧ Off ((List.range n).map ds) W wr
/-- What Fuse leaves. -/
def FusePost (W : World) (n : Nat) (x : Int) (ds ss ms : Nat → Nat) (Ds : Nat → Dsk) (e : Ending) (w' : World) : Prop := e = .returned (.int .i64 0) ∧ ∃ q, W.heap.size ≤ q ∧ Disks w' n ds ss ms (fusedK Ds q n) ∧ FuseIs w' (some q) x false ∧ Off ((List.range n).map ds) W w'
theorem one_mem (ds : Nat → Nat) {n k r : Nat} (hk : k < n) (e : r ∈ [ds k]) : r ∈ (List.range n).map ds := by
  have e' : r = ds k := by simpa using e
  rw [e']
  exact List.mem_map.2 ⟨k, List.mem_range.2 hk, rfl⟩
theorem fuse_step (W wr : World) (q b n k : Nat) (x : Int) (ds ss ms : Nat → Nat) (Ds : Nat → Dsk) (hk : k < n) (hq : W.heap.size ≤ q) (hdl : ∀ i, i < n → ds i < W.heap.size ∧ ss i < W.heap.size ∧ ms i < W.heap.size) (hb : ∀ i, i < n → b ≠ ds i) (h1 : Disks wr n ds ss ms (fusedK Ds q k)) (h2 : DList wr b n ds) (h3 : FuseIs wr (some q) x false) (h4 : Off ((List.range n).map ds) W wr) :
    fz2Rel W q b n x ds ss ms Ds (.int .i64 ((k : Int) + 1)) ((wr.setCell ⟨ds k, 5, none⟩ (.bool false)).setCell ⟨ds k, 4, none⟩ (.pointer (some ⟨q, 0, none⟩))) := by
  have O : Off [ds k] wr ((wr.setCell ⟨ds k, 5, none⟩ (.bool false)).setCell ⟨ds k, 4, none⟩ (.pointer (some ⟨q, 0, none⟩))) := (Off.set _ _ _ (by simp)).trans (Off.set _ _ _ (by simp))
  have dk := hdl k hk
  refine ⟨k + 1, by omega, by go_num, ⟨fun i hi => ?_, h1.apart⟩, h2.off O (by have := hb k hk; simp; omega), h3.off O (fun r e => by cases e; simp; omega), h4.trans (O.mono (fun r e => one_mem ds hk e))⟩
  rw [fusedK_succ]
  by_cases e : i = k
  · subst e
    rw [if_pos rfl]
    have hd := h1.at' i hi
    have ek : fusedK Ds q i i = Ds i := by unfold fusedK; rw [if_neg (by omega)]
    rw [ek] at hd
    exact hd.fused
  · rw [if_neg e]
    have a1 := h1.apart k i hk hi (fun g => e g.symm)
    exact (h1.at' i hi).off O (by have := a1.1; simp; omega) (by have := a1.2.1; simp; omega) (by have := a1.2.2; simp; omega)
set_option maxRecDepth 100000 in
set_option maxHeartbeats 1000000 in
/-- Fuse of disks that have none, and are not out. -/
theorem fuse_ok (W : World) (b n C : Nat) (x : Int) (ds ss ms : Nat → Nat) (Ds : Nat → Dsk) (hD : Disks W n ds ss ms Ds) (hL : DList W b n ds) (hb : ∀ i, i < n → b ≠ ds i) (hn : n ≤ 64) (hx : 0 ≤ x) (hx2 : x < 9223372036854775808) (hf : ∀ i, i < n → (Ds i).fz = none ∧ (Ds i).out = false) :
    Calls Try.prog 22 #[.slice (some ⟨b, 0, none⟩) n C, .int .i64 x] W (FusePost W n x ds ss ms Ds) := by
  have HD : Hid (Disks W n ds ss ms Ds) := hD
  have HL : Hid (DList W b n ds) := hL
  have HB : Hid (∀ i, i < n → b ≠ ds i) := hb
  have HF : Hid (∀ i, i < n → (Ds i).fz = none ∧ (Ds i).out = false) := hf
  have HDL : Hid (∀ i, i < n → ds i < W.heap.size ∧ ss i < W.heap.size ∧ ms i < W.heap.size) := fun i hi => ⟨(hD.at' i hi).dl, (hD.at' i hi).sl, (hD.at' i hi).ml⟩
  have bl := hL.2
  have ST : Hid (fz1Rel W n (.int .i64 0) W) := ⟨0, by omega, rfl, rfl⟩
  have x1 : ¬ x < 0 := by omega
  have n1 : ¬ (64 : Int) < n := by omega
  clear hD hL hb hf
  go_enter Try.func22, Try.ntmps22
  go_wp2_with fail
  go_loopw [12] (fun i wr => fz1Rel W n i wr) (fun i _ => n - (RowKit.intOf i).toNat)
  case atStart => exact ST.out
  case round =>
    obtain ⟨k, hk, rfl, rfl⟩ := hrel
    clear ST
    by_cases hlt : k < n
    · have i1 : (k : Int) < n := by omega
      have c0 := HL.out.1 k hlt
      have HK : Hid (DiskAt W (ds k) (ss k) (ms k) (Ds k)) := HD.out.at' k hlt
      have RR : Hid (fz1Rel W n (.int .i64 ((k : Int) + 1)) W) := ⟨k + 1, by omega, by go_num, rfl⟩
      go_wp2_with (go_at_call 55; refine (made_ok _ (ds k) (ss k) (ms k) (Ds k) HK.out).mono ?_; rintro e w1 ⟨rfl, rfl⟩)
      go_roundw
      case rel => exact RR.out
      case measure => simp [RowKit.intOf]; omega
    · have i1 : ¬ (k : Int) < n := by omega
      have F0 := (Rec19.new W 101 [.int .i64 x, .bool false])
      have B0 : Below W.heap.size W (W.alloc (.cells #[.int .i64 x, .bool false] 101)) := (Below.refl _ _).alloc (Nat.le_refl _) _
      have ST2 : Hid (fz2Rel W W.heap.size b n x ds ss ms Ds (.int .i64 0) (W.alloc (.cells #[.int .i64 x, .bool false] 101))) :=
        ⟨0, by omega, rfl, HD.out.below B0, HL.out.off (bs := []) (Off.of B0) (by simp), ⟨F0, hx, hx2⟩, Off.of B0⟩
      clear F0 B0
      go_wp2_with fail
      go_loopw [32] (fun i w2 => fz2Rel W W.heap.size b n x ds ss ms Ds i w2) (fun i _ => n - (RowKit.intOf i).toNat)
      case atStart => exact ST2.out
      case round =>
        obtain ⟨j, hj, rfl, g1, g2, g3, g4⟩ := hrel
        clear ST2
        by_cases hlt : j < n
        · have j1 : (j : Int) < n := by omega
          have c0 := g2.1 j hlt
          have ek : fusedK Ds W.heap.size j j = Ds j := by unfold fusedK; rw [if_neg (by omega)]
          have dj := g1.at' j hlt
          rw [ek] at dj
          obtain ⟨c5, f5⟩ := dj.recd.cel 5 _ rfl
          obtain ⟨c4, f4⟩ := dj.recd.cel 4 _ rfl
          have hj' := HF.out j hlt
          have UP : Hid (Calls Try.prog 20 #[.pointer (some ⟨ds j, 0, none⟩)] wr fun e w' => e = .returned (.bool true) ∧ w' = wr) := by
            have h := up_ok wr (ds j) (ss j) (ms j) (Ds j) 0 false dj (by rw [hj'.1]; rfl)
            have e : (Ds j).up false = true := by unfold Dsk.up; rw [hj'.2]; rfl
            rw [e] at h
            exact h
          have RR : Hid (fz2Rel W W.heap.size b n x ds ss ms Ds (.int .i64 ((j : Int) + 1)) ((wr.setCell ⟨ds j, 5, none⟩ (.bool false)).setCell ⟨ds j, 4, none⟩ (.pointer (some ⟨W.heap.size, 0, none⟩)))) := fuse_step W wr W.heap.size b n j x ds ss ms Ds hlt (Nat.le_refl _) HDL.out HB.out g1 g2 g3 g4
          clear g1 g2 g3 g4 dj ek hj'
          go_wp2_with (go_at_call 20; refine UP.out.mono ?_; rintro e w1 ⟨rfl, rfl⟩)
          go_roundw
          case rel => exact RR.out
          case measure => simp [RowKit.intOf]; omega
        · have j1 : ¬ (j : Int) < n := by omega
          obtain rfl : j = n := by omega
          have PP : Hid (FusePost W j x ds ss ms Ds (.returned (.int .i64 0)) wr) := ⟨rfl, W.heap.size, Nat.le_refl _, g1, g3, g4⟩
          go_wp2_with fail
          go_ret
          exact PP.out
end Go.Proofs.Ytoehbljnapdbgaa
