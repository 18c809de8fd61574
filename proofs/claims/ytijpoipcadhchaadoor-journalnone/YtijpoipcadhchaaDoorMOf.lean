/-
  Walks, not a claim by itself: the header of bytes. By the verifier.
-/
import Derived.Test.YtijpoipcadhchaaDoorMByt
namespace Go.Proofs.YtijpoipcadhchaaDoor
open Go.RowKit
/-- The header's fields, of which the first k numbers are read. -/
def gotF (f : Nat → Int) : Nat → Nat → Int
  | 0 => fun _ => 0
  | k + 1 => upd (gotF f k) (pos k) (ps (fun i => f (fat k + i)) 4)
/-- The header of bytes. -/
def hdrF (f : Nat → Int) : Nat → Int := upd (upd (upd (gotF f 13) 9 (ps (fun i => f (76 + i)) 8)) 10 (ps (fun i => f (68 + i)) 8)) 13 (ps (fun i => f (92 + i)) 8)
theorem hcs_set (h : Nat → Int) (v : Int) : ∀ k, k < 13 → (hcs h).set (pos k) (.int .i64 v) = hcs (upd h (pos k) v)
  | 0, _ | 1, _ | 2, _ | 3, _ | 4, _ | 5, _ | 6, _ | 7, _ | 8, _ | 9, _ | 10, _ | 11, _ | 12, _ => rfl
  | k + 13, h => absurd h (by omega)
theorem hcs_set9 (h : Nat → Int) (v : Int) : (hcs h).set 9 (.int .u64 v) = hcs (upd h 9 v) := rfl
theorem hcs_set10 (h : Nat → Int) (v : Int) : (hcs h).set 10 (.int .u64 v) = hcs (upd h 10 v) := rfl
theorem hcs_set13 (h : Nat → Int) (v : Int) : (hcs h).set 13 (.int .u64 v) = hcs (upd h 13 v) := rfl
theorem pos_lt (k : Nat) (h : k < 13) : pos k < 16 := by unfold pos; split <;> (try split) <;> omega
theorem Rec19.set {W : World} {n : Nat} {cs : List Value} (h : Rec19 W n 0 cs) (o : Nat) (v : Value) (ho : o < cs.length) : Rec19 (W.setCell ⟨n, o, none⟩ v) n 0 (cs.set o v) := by
  have h0 := h.2.1 o ho
  rw [Nat.zero_add] at h0
  refine ⟨fun j u hj => ?_, fun j hj => ?_, by simp [World.setCell]; exact h.2.2⟩
  · rw [Nat.zero_add]
    by_cases e : j = o
    · subst e
      rw [List.getElem?_set_self ho] at hj
      rw [World.cell?_setCell_same' _ _ _ h0.1, hj]
    · rw [List.getElem?_set_ne (fun q => e q.symm)] at hj
      rw [World.cell?_setCell_other _ (a := ⟨n, o, none⟩) (b := ⟨n, j, none⟩) _ (fun q => e (by injection q with _ q; exact q.symm))]
      have := h.1 j u hj
      rwa [Nat.zero_add] at this
  · rw [List.length_set] at hj
    have := h.2.1 j hj
    rw [Nat.zero_add] at this ⊢
    refine ⟨?_, by simp [this.2]⟩
    by_cases e : j = o
    · subst e
      rw [World.cell?_setCell_same' _ _ _ h0.1]; rfl
    · rw [World.cell?_setCell_other _ (a := ⟨n, o, none⟩) (b := ⟨n, j, none⟩) _ (fun q => e (by injection q with _ q; exact q.symm))]
      exact this.1
theorem Rec19.at {W : World} {n : Nat} {cs : List Value} (h : Rec19 W n 0 cs) (o : Nat) (v : Value) (ho : cs[o]? = some v) : W.cell? ⟨n, o, none⟩ = some v ∧ W.frozen? ⟨n, o, none⟩ = false := by
  have a := h.1 o v ho
  have b := h.2.1 o (by rw [List.getElem?_eq_some_iff] at ho; exact ho.1)
  rw [Nat.zero_add] at a b
  exact ⟨a, b.2⟩
/-- What holds at the head of the loop. -/
def ofRel (w : World) (r c : Nat) (f : Nat → Int) (i : Value) (wr : World) : Prop := ∃ k : Nat, k ≤ 13 ∧ i = .int .i64 k ∧ Rec19 wr c 0 (hcs (gotF f k)) ∧ Rec19 wr r 0 (hcs fun _ => 0) ∧ Tab wr ∧ Below w.heap.size w wr
theorem of_step (w wr : World) (r c k : Nat) (f : Nat → Int) (v : Int) (hk : k < 13) (hv : v = ps (fun i => f (fat k + i)) 4) (hr : w.heap.size ≤ r) (hc : r < c) (hT0 : 0 < w.heap.size) (hR : Rec19 wr c 0 (hcs (gotF f k))) (hr' : Rec19 wr r 0 (hcs fun _ => 0)) (hT : Tab wr) (hB : Below w.heap.size w wr) :
    ofRel w r c f (.int .i64 ((k : Int) + 1)) (wr.setCell ⟨c, pos k, none⟩ (.int .i64 v)) := by
  subst hv
  have hbb : Below w.heap.size wr (wr.setCell ⟨c, pos k, none⟩ (.int .i64 (ps (fun i => f (fat k + i)) 4))) := (Below.refl _ _).setCell (by show _ ≤ c; omega) _
  refine ⟨k + 1, by omega, by go_num, ?_, hr'.but (But.set _ _ _) (by omega), hT.below hbb hT0, hB.trans hbb⟩
  have := hR.set (pos k) (.int .i64 (ps (fun i => f (fat k + i)) 4)) (by rw [hcs_len]; exact pos_lt k hk)
  rw [hcs_set _ _ k hk] at this
  exact this
theorem zeroHdr : (Tryd.prog.info? 26).bind (·.zero) = some (.agg (hcs fun _ => 0).toArray) := by kernel_rfl
theorem ps_4 (f : Nat → Int) (hf : ∀ j, j < 4 → 0 ≤ f j ∧ f j < 256) : 0 ≤ ps f 4 ∧ ps f 4 < 4294967296 := ps_bound f 4 hf
set_option maxRecDepth 100000 in
set_option maxHeartbeats 400000 in
theorem headerOf_any (b off C : Nat) (f : Nat → Int) (w : World) (hT : Tab w) (hL : Lies w b off 256 f) (hC : 256 ≤ C) :
    Calls Tryd.prog 64 #[.slice (some ⟨b, off, none⟩) 256 C] w fun e w' => e = .returned (.agg (hcs (hdrF f)).toArray) ∧ Below w.heap.size w w' := by
  have hT0 := hT.2
  have TT : Hid (Tab w) := hT
  have LL : Hid (Lies w b off 256 f) := hL
  clear hT hL
  go_enter Tryd.func64, Tryd.ntmps64
  go_wp2_with (first
    | (refine wpList_alloc_rec rfl 26 rfl (hcs fun _ => 0) w.heap.size rfl zeroHdr ?_; intro W1 hR1 hB1 hz1)
    | (refine wpList_alloc_rec rfl 118 rfl (hcs fun _ => 0) (w.heap.size + 1) hz1 zeroOwn ?_; intro W2 hR2 hB2 hz2)
    | (go_at_call 80; refine (numbers_any (w.heap.size + 1) _).mono ?_; rintro e W3 ⟨rfl, hB3⟩))
  have E2 : Below w.heap.size w W2 := hB1.trans (hB2.mono (by omega))
  have E3 : Below w.heap.size w W3 := E2.trans (hB3.mono E2.size)
  have ST : Hid (ofRel w w.heap.size (w.heap.size + 1) f (.int .i64 0) W3) := ⟨0, by omega, rfl, hR2.below hB3, (hR1.below (by rw [hz1]; exact hB2)).below hB3, TT.out.below E3 hT0, E3⟩
  clear E2 E3 hR1 hB1 hz1 hR2 hB2 hz2 hB3
  generalize hc : w.heap.size + 1 = c at ST ⊢
  go_loopw [7] (fun i wr => ofRel w w.heap.size c f i wr) (fun i _ => 13 - (intOf i).toNat)
  case atStart => exact ST.out
  case round =>
    obtain ⟨k, hk, rfl, hR, hr', hT, hB⟩ := hrel
    clear ST TT
    have RC : Hid (Rec19 wr c 0 (hcs (gotF f k))) := hR
    have RR : Hid (Rec19 wr w.heap.size 0 (hcs fun _ => 0)) := hr'
    have TT : Hid (Tab wr) := hT
    have BE : Hid (Below w.heap.size w wr) := hB
    have LW : Hid (Lies wr b off 256 f) := LL.out.below hB
    clear hR hr' hT hB
    by_cases hlt : k < 13
    · have p1 : ∀ w, (Instr.index 128 (.agg (ptrs c).toArray) (.int .i64 k)).run Tryd.prog w = .ok (.pointer (some ⟨c, pos k, none⟩)) w := fun w => ptrs_index c w k hlt
      obtain ⟨c0, f0⟩ := RC.out.at (pos k) _ (hcs_pos _ k hlt)
      obtain ⟨c1, _, _⟩ := TT.out.1 k hlt
      have e0 : (k : Int) < 13 := by omega
      obtain ⟨o0, o1⟩ := fat_le k hlt
      have PL : Hid (Lies wr b (off + fat k) 4 (fun i => f (fat k + i))) := LW.out.part (fat k) 4 (by omega)
      have SS : Hid (∀ v, v = ps (fun i => f (fat k + i)) 4 → ofRel w w.heap.size c f (.int .i64 ((k : Int) + 1)) (wr.setCell ⟨c, pos k, none⟩ (.int .i64 v))) := fun v hv => of_step w wr _ c k f v hlt hv (Nat.le_refl _) (by omega) hT0 RC.out RR.out TT.out BE.out
      obtain ⟨v0, v1⟩ := ps_4 _ PL.out.2.1
      generalize hv : ps (fun i => f (fat k + i)) 4 = v at v0 v1 SS
      have HV : Hid (ps (fun i => f (fat k + i)) 4 = v) := hv
      clear hv
      have wv : IntKind.i64.wrap v = v := by rw [IntKind.wrap_i64]; omega
      generalize gotF f k (pos k) = y at c0
      generalize pos k = x at p1 c0 f0 SS
      generalize hg : (fun i => f (fat k + i)) = g at PL HV
      clear hg
      generalize fat k = o at c1 o0 o1 PL
      have o2 : (o : Int) ≤ 256 := by omega
      have o3 : (o : Int) ≤ C := by omega
      have o4 : ¬ C = o := by omega
      have o5 : (4 : Int) ≤ ((C - o : Nat) : Int) := by omega
      go_wp2_with (go_at_call 81; refine (mtake_any b (off + o) 4 _ g _ PL.out (by omega)).mono ?_; rintro e w' ⟨rfl, hw'⟩; rw [hw', HV.out]; clear hw')
      exact ⟨SS.out v rfl, by simp [intOf]; omega⟩
    · obtain rfl : k = 13 := by omega
      clear TT
      rw [show ((13 : Nat) : Int) = 13 from rfl]
      have k1 : (68 : Int) ≤ C := by omega
      have k2 : (92 : Int) ≤ C := by omega
      have k3 : ¬ C = 68 := by omega
      have k4 : ¬ C = 92 := by omega
      have k5 : (16 : Int) ≤ ((C - 68 : Nat) : Int) := by omega
      have k6 : (8 : Int) ≤ ((C - 92 : Nat) : Int) := by omega
      have L1 : Hid (Lies wr b (off + 68) 16 (fun i => f (68 + i))) := LW.out.part 68 16 (by omega)
      have hbc : ¬ b = c := by have := LL.out.2.2; omega
      go_wp2_with (first
        | (go_at_call 82; refine (read_ok b (off + 68) _ (fun i => f (68 + i)) _ (by omega) L1.out).mono ?_; rintro e W4 ⟨rfl, hB4⟩
           have RC4 := RC.out.below hB4
           obtain ⟨c9, f9⟩ := RC4.at 9 _ rfl
           obtain ⟨c10, f10⟩ := RC4.at 10 _ rfl
           obtain ⟨c13, f13⟩ := RC4.at 13 _ rfl
           have LX : Hid (Lies W4 b off 256 f) := LW.out.below hB4
           have RX : Hid (Rec19 W4 c 0 (hcs (gotF f 13))) := RC4
           have RY : Hid (Rec19 W4 w.heap.size 0 (hcs fun _ => 0)) := RR.out.below hB4
           have BX : Hid (Below w.heap.size w W4) := BE.out.trans (hB4.mono BE.out.size)
           clear RC4 hB4 RC RR BE LW L1
           rw [le8_ps, le8_ps]
           generalize h9 : ps (fun j => f (68 + (8 + j))) 8 = a9
           generalize h10 : ps (fun i => f (68 + i)) 8 = a10
           have H9 : Hid (ps (fun j => f (68 + (8 + j))) 8 = a9 ∧ ps (fun i => f (68 + i)) 8 = a10) := ⟨h9, h10⟩
           clear h9 h10))
      have RX2 : Rec19 ((W4.setCell ⟨c, 9, none⟩ (.int .u64 a9)).setCell ⟨c, 10, none⟩ (.int .u64 a10)) c 0 (hcs (upd (upd (gotF f 13) 9 a9) 10 a10)) := by
        have q := (RX.out.set 9 (.int .u64 a9) (by rw [hcs_len]; omega)).set 10 (.int .u64 a10) (by rw [List.length_set, hcs_len]; omega)
        rw [hcs_set9, hcs_set10] at q
        exact q
      have RY2 : Rec19 ((W4.setCell ⟨c, 9, none⟩ (.int .u64 a9)).setCell ⟨c, 10, none⟩ (.int .u64 a10)) w.heap.size 0 (hcs fun _ => 0) := (RY.out.but (But.set _ _ _) (by omega)).but (But.set _ _ _) (by omega)
      have LX2 : Lies ((W4.setCell ⟨c, 9, none⟩ (.int .u64 a9)).setCell ⟨c, 10, none⟩ (.int .u64 a10)) b off 256 f := (LX.out.but (But.set _ _ _) (by omega)).but (But.set _ _ _) (by omega)
      have BX2 : Below w.heap.size w ((W4.setCell ⟨c, 9, none⟩ (.int .u64 a9)).setCell ⟨c, 10, none⟩ (.int .u64 a10)) := (BX.out.setCell (by show _ ≤ c; omega) _).setCell (by show _ ≤ c; omega) _
      generalize ((W4.setCell ⟨c, 9, none⟩ (.int .u64 a9)).setCell ⟨c, 10, none⟩ (.int .u64 a10)) = X at RX2 RY2 LX2 BX2 ⊢
      clear c9 f9 c10 f10 c13 f13 LX RX RY BX
      obtain ⟨c13, f13⟩ := RX2.at 13 (.int .u64 (upd (upd (gotF f 13) 9 a9) 10 a10 13)) rfl
      generalize upd (upd (gotF f 13) 9 a9) 10 a10 13 = y13 at c13
      refine (mtake_any b (off + 92) 8 _ (fun i => f (92 + i)) _ (LX2.part 92 8 (by omega)) (by omega)).mono ?_
      rintro e w' ⟨rfl, rfl⟩
      generalize h13 : ps (fun i => f (92 + i)) 8 = a13
      have RX3 : Hid (Rec19 (w'.setCell ⟨c, 13, none⟩ (.int .u64 a13)) c 0 (hcs (hdrF f))) := by
        have := RX2.set 13 (.int .u64 a13) (by rw [hcs_len]; omega)
        have e : (hcs (hdrF f)) = (hcs (upd (upd (gotF f 13) 9 a9) 10 a10)).set 13 (.int .u64 a13) := by
          unfold hdrF
          rw [h13, H9.out.2, ← H9.out.1, ps_congr (fun j => f (68 + (8 + j))) (fun i => f (76 + i)) 8 (fun j _ => by show f (68 + (8 + j)) = f (76 + j); rw [← Nat.add_assoc]), hcs_set13]
        rw [e]
        exact this
      have RY3 : Hid (Rec19 (w'.setCell ⟨c, 13, none⟩ (.int .u64 a13)) w.heap.size 0 (hcs fun _ => 0)) := RY2.but (But.set _ _ _) (by omega)
      have BX3 : Hid (Below w.heap.size w (w'.setCell ⟨c, 13, none⟩ (.int .u64 a13))) := BX2.setCell (by show _ ≤ c; omega) _
      clear RX2 RY2 BX2 LX2 h13 H9
      go_wp2_with (first
        | (refine wpList_load_rec rfl 118 (.tmp 3) rfl c 0 (hcs (hdrF f)) rfl _ Tryd.underlying118 rfl (by kernel_rfl) RX3.out ?_)
        | (refine wpList_store_rec rfl 26 (.tmp 2) (.tmp 36) rfl w.heap.size 0 _ (hcs (hdrF f)) rfl rfl RY3.out rfl (by kernel_rfl) (hcs_one _) ?_; intro W8 hR8 hB8))
      have hl := hR8.run_load 26 _ Tryd.underlying26 rfl (by kernel_rfl)
      refine bodyPost_ret (v := .agg (hcs (hdrF f)).toArray) (by simp [results, Tryd.results64, asAddr, Act.put, hl]) rfl ⟨rfl, ?_⟩
      exact BX3.out.trans (hB8.below (Nat.le_refl _) BX3.out.size)
end Go.Proofs.YtijpoipcadhchaaDoor
