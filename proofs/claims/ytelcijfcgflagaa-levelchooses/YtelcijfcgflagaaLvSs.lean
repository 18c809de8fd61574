/-
  Walks, not a claim by itself: level's spans and copiedTables. By the verifier.
-/
import Derived.Test.YtelcijfcgflagaaLvCo
import Derived.Test.YtelcijfcgflagaaRunW
namespace Go.Proofs.Ytelcijfcgflagaa
open Go.RowKit
attribute [-go_sem] Builtin.append_
/-- Does a table span a key? -/
def spnB (r : Rn) (k : ByteArray) : Bool := decide (cmpB r.f k ≤ 0) && decide (cmpB k r.l ≤ 0)
set_option maxRecDepth 100000 in
theorem spans_any {W : World} {N M : List Nat} {x : RV} {s : Value} {t : ByteArray} (h : RVOk W N x) (hk : Txt W M s t) : Calls Try.prog 80 #[.agg x.cs.toArray, s] W fun e w' => e = .returned (.bool (spnB x.r t)) ∧ Below W.heap.size W w' := by
  have HX := hidIt h
  have HK := hidIt hk
  have t1 : Hid True := trivial
  obtain ⟨ka, kC, kf, hkv, _⟩ := hk
  subst hkv
  clear h
  by_cases h1 : cmpB x.r.f t ≤ 0
  · have c1 : (cmpB x.r.f t ≤ 0) = True := eq_true h1
    by_cases h2 : cmpB t x.r.l ≤ 0
    · have c2 : (cmpB t x.r.l ≤ 0) = True := eq_true h2
      have FIN : Hid (spnB x.r t = true) := hidIt (by unfold spnB; simp [h1, h2])
      clear h1 h2
      go_enter Try.func80, Try.ntmps80
      go_wp2_with (first
        | (refine wpList_box_rec rfl 45 (.tmp 0) rfl x.cs rfl W.heap.size rfl ?_; intro W1 R1 B1 z1; have E1 := hidIt B1; have q2 := (R1.cel 3 _ rfl).1; have q3 := (R1.cel 4 _ rfl).1; clear R1 B1 z1)
        | (go_at_call 35; have _q := t1; clear t1 _q; refine (ycmp_any (HX.out.1.below E1.out) (HK.out.below E1.out)).mono ?_; rintro e w2 ⟨rfl, hw⟩; rw [hw]; clear hw w2)
        | (go_at_call 35; refine (ycmp_any (HK.out.below E1.out) (HX.out.2.below E1.out)).mono ?_; rintro e w2 ⟨rfl, hw⟩; rw [hw]; clear hw w2))
      exact bodyPost_ret (v := .bool true) (by simp [results, Try.results80, go_sem]) rfl ⟨by rw [FIN.out], E1.out⟩
    · have c2 : (cmpB t x.r.l ≤ 0) = False := eq_false h2
      have FIN : Hid (spnB x.r t = false) := hidIt (by unfold spnB; simp [h1, h2])
      clear h1 h2
      go_enter Try.func80, Try.ntmps80
      go_wp2_with (first
        | (refine wpList_box_rec rfl 45 (.tmp 0) rfl x.cs rfl W.heap.size rfl ?_; intro W1 R1 B1 z1; have E1 := hidIt B1; have q2 := (R1.cel 3 _ rfl).1; have q3 := (R1.cel 4 _ rfl).1; clear R1 B1 z1)
        | (go_at_call 35; have _q := t1; clear t1 _q; refine (ycmp_any (HX.out.1.below E1.out) (HK.out.below E1.out)).mono ?_; rintro e w2 ⟨rfl, hw⟩; rw [hw]; clear hw w2)
        | (go_at_call 35; refine (ycmp_any (HK.out.below E1.out) (HX.out.2.below E1.out)).mono ?_; rintro e w2 ⟨rfl, hw⟩; rw [hw]; clear hw w2))
      exact bodyPost_ret (v := .bool false) (by simp [results, Try.results80, go_sem]) rfl ⟨by rw [FIN.out], E1.out⟩
  · have c1 : (cmpB x.r.f t ≤ 0) = False := eq_false h1
    have FIN : Hid (spnB x.r t = false) := hidIt (by unfold spnB; simp [h1])
    clear h1
    go_enter Try.func80, Try.ntmps80
    go_wp2_with (first
      | (refine wpList_box_rec rfl 45 (.tmp 0) rfl x.cs rfl W.heap.size rfl ?_; intro W1 R1 B1 z1; have E1 := hidIt B1; have q2 := (R1.cel 3 _ rfl).1; have q3 := (R1.cel 4 _ rfl).1; clear R1 B1 z1)
      | (go_at_call 35; refine (ycmp_any (HX.out.1.below E1.out) (HK.out.below E1.out)).mono ?_; rintro e w2 ⟨rfl, hw⟩; rw [hw]; clear hw w2))
    exact bodyPost_ret (v := .bool false) (by simp [results, Try.results80, go_sem]) rfl ⟨by rw [FIN.out], E1.out⟩
/-- What copiedTables' loop keeps. -/
structure CsI (W : World) (ps : List RV) (k : Nat) (wr : World) (v : Value) (os : List RV) : Prop where
  own : OwnR wr 0 v os
  new : ∀ b, v.ownBlock = some b → W.heap.size ≤ b
  oks : ∀ x ∈ os, OkT W.heap.size wr v.ownBlock.toList x
  eq : os.map RV.r = (ps.map RV.r).take k
  below : Below W.heap.size W wr
theorem CsI.below' {W wr w' : World} {ps : List RV} {k : Nat} {v : Value} {os : List RV} (h : CsI W ps k wr v os) (hB : Below wr.heap.size wr w') : CsI W ps k w' v os := ⟨h.own.below hB, h.new, fun x hx => (h.oks x hx).below hB, h.eq, h.below.trans (hB.mono h.below.size)⟩
theorem CsI.step {W wr w' : World} {ps : List RV} {k : Nat} {v v' : Value} {os : List RV} {x z : RV} (h : CsI W ps k wr v os) (hx : ps[k]? = some x) (hz : z.r = x.r) (hzk : OkT W.heap.size wr v.ownBlock.toList z) (hI : InsR wr v (os ++ [z]) v' w') : CsI W ps (k + 1) w' v' (os ++ [z]) := by
  have st : ∀ y, OkT W.heap.size wr v.ownBlock.toList y → OkT W.heap.size w' v'.ownBlock.toList y := fun y hy => hy.step hI.off (fun b hb => hb) (fun b hb => by
    rcases hI.blk b (by simpa using hb) with q | q
    · exact .inl (by simpa using q)
    · exact .inr q)
  refine ⟨hI.own, fun b hb => ?_, fun y hy => ?_, ?_, h.below.trans (hI.off.below (fun b hb => h.new b (by simpa using hb)) h.below.size)⟩
  · rcases hI.blk b hb with q | q
    · exact h.new b q
    · exact Nat.le_trans h.below.size q
  · rcases List.mem_append.1 hy with hy | hy
    · exact st y (h.oks y hy)
    · rcases List.mem_singleton.1 hy with rfl
      exact st y hzk
  · obtain ⟨hk, rfl⟩ := List.getElem?_eq_some_iff.1 hx
    rw [List.map_append, h.eq, List.take_succ_eq_append_getElem (by simpa using hk)]
    simp [hz]
/-- What copiedTables answers. -/
def CsPost (W : World) (rs : List Rn) (e : Ending) (w' : World) : Prop := ∃ a c os, e = .returned (.slice a (os : List RV).length c) ∧ OwnR w' 0 (.slice a os.length c) os ∧ (∀ b, (Value.slice a os.length c).ownBlock = some b → W.heap.size ≤ b) ∧ (∀ x ∈ os, OkT W.heap.size w' (Value.slice a os.length c).ownBlock.toList x) ∧ os.map RV.r = rs ∧ Below W.heap.size W w'
set_option maxRecDepth 100000 in
set_option maxHeartbeats 2000000 in
theorem copiedTables_any {W : World} {a : Option Addr} {ps : List RV} (n C : Nat) (hn : ps.length = n) (hL : LsR W a ps) (hf : n ≤ 50000) (hz : ∀ y ∈ ps, y.r.f.size ≤ 1000000 ∧ y.r.l.size ≤ 1000000) : Calls Try.prog 32 #[.slice a n C] W (CsPost W (ps.map RV.r)) := by
  have HL := hidIt hL
  have HN := hidIt (And.intro hn (And.intro hf hz))
  have st : Hid (CsI W ps 0 W (.slice none 0 0) []) := hidIt ⟨OwnR.nil _ _, fun b hb => (by cases hb), fun x hx => (by cases hx), rfl, Below.refl _ _⟩
  clear hn hL hf hz
  go_enter Try.func32, Try.ntmps32
  go_wp2_with fail
  go_loopw [3, 8] (fun lv iv wr => ∃ (k : Nat) (os : List RV), k ≤ n ∧ iv = .int .i64 (k : Int) ∧ Hid (CsI W ps k wr lv os)) (fun _ iv _ => n - (RowKit.intOf iv).toNat)
  case atStart => exact ⟨0, [], Nat.zero_le _, rfl, st⟩
  case round =>
    clear st
    obtain ⟨k, os, hk, rfl, hI⟩ := hrel
    by_cases hlt : k < n
    · obtain ⟨x, hx⟩ : ∃ x, ps[k]? = some x := ⟨_, List.getElem?_eq_getElem (by have := HN.out.1; omega)⟩
      obtain ⟨b, o, ha, hr, hb⟩ := (HL.out.below hI.out.below).at k x hx
      subst ha
      have LT := hidIt hlt
      have HX := hidIt hx
      have OX := hidIt ((HL.out.1 x (List.mem_of_getElem? hx)).below hI.out.below)
      have SX := hidIt (HN.out.2.2 x (List.mem_of_getElem? hx))
      have OL : Hid (os.length ≤ 50000) := hidIt (by have := congrArg List.length hI.out.eq; rw [List.length_map, List.length_take] at this; have := HN.out.2.1; omega)
      obtain ⟨i0, i1, i2, i3, i4⟩ := tb_ar k n hlt (by have := HN.out.2.1; omega)
      have GO := hidIt i4
      clear hx hlt hk hb i4
      rename World => wr
      go_wp2_with (first
        | (refine wpList_load_mid rfl 45 (.tmp 10) rfl b (o + k * 5) rfl x.cs _ hr Try.underlying45 rfl run_size ?_; clear hr)
        | (refine wpList_alloc_rec rfl 45 rfl _ wr.heap.size rfl run_zero ?_; intro W2 R2 B2 z2; have E2 := hidIt (And.intro B2 z2); have P2 := hidIt R2; clear R2 B2 z2)
        | (refine wpList_store_rec rfl 45 (.tmp 5) (.tmp 11) rfl wr.heap.size 0 _ x.cs rfl rfl P2.out rfl run_size OX.out.one ?_; intro W3 R3 B3; have E3 := hidIt (E2.out.1.trans (B3.below (Nat.le_refl _) (by have := E2.out.2; omega))); have P3 := hidIt R3; clear R3 B3)
        | (refine wpList_load_rec rfl 45 (.tmp 5) rfl wr.heap.size 0 x.cs rfl _ Try.underlying45 rfl run_size P3.out ?_)
        | (go_at_call 52; refine (copiedTable_any (OX.out.below E3.out) SX.out).mono ?_; rintro e W4 ⟨z, hz, rfl, Fz, Lz, B4⟩; have HZ := hidIt hz; have F4 := hidIt (And.intro Fz Lz); have E4 := hidIt (E3.out.trans (B4.mono E3.out.size)); have G4 := hidIt B4; clear hz Fz Lz B4; obtain ⟨W5, hW5⟩ : ∃ W5, W5 = W4.alloc (.cells z.cs.toArray 45) := ⟨_, rfl⟩; have A5 : Below W4.heap.size W4 W5 := (by rw [hW5]; exact (Below.refl _ _).alloc (Nat.le_refl _) _); have E5 := hidIt (E4.out.trans (A5.mono E4.out.size)); have R5 : Rec19 W5 W4.heap.size 0 (rcs [z]) := (by rw [hW5, rcs_single]; exact Rec19.new W4 _ z.cs); have OZ : Hid (OkT W.heap.size W5 u3.ownBlock.toList z) := hidIt (OkT.below ⟨⟨by rw [HZ.out]; exact F4.out.1.low (Nat.le_trans hI.out.below.size E3.out.size), by rw [HZ.out]; exact F4.out.2.low (Nat.le_trans hI.out.below.size E3.out.size)⟩, by rw [HZ.out]; exact F4.out.1.txt (fun b hb => Nat.lt_of_lt_of_le (hI.out.own.lt (by simpa using hb)) E3.out.size), by rw [HZ.out]; exact F4.out.2.txt (fun b hb => Nat.lt_of_lt_of_le (hI.out.own.lt (by simpa using hb)) E3.out.size)⟩ A5); obtain ⟨v6, W6, hr6, I6⟩ := app_runs 23 W5 u3 os [z] ⟨W4.heap.size, 0, none⟩ 1 (hI.out.own.below E5.out) (fun j u hj => by rw [Addr.add_mid]; exact R5.1 j u hj) (by rw [rcs_single]; exact OZ.out.2.one) (by simp) (by have := OL.out; simp; omega); simp only [List.length_singleton] at hr6; have NX := hidIt ((hI.out.below' E5.out).step HX.out HZ.out OZ.out I6); have HW5 := hidIt hW5; clear hW5 A5 R5 I6)
        | (refine wpList_run_w (by rfl) (.slice (some ⟨W4.heap.size, 0, none⟩) 1 1) W5 (by rw [HW5.out]; exact bsl_run 23 45 1 _ rfl 5 72 _ _ _ under_runs info_run (by decide) (by decide) rfl (by kernel_rfl)) ?_)
        | (at_builtin; refine wpList_append_go rfl (.tmp 12) (.tmp 15) 23 23 rfl _ _ rfl rfl hr6 ?_))
      exact ⟨⟨k + 1, _, LT.out, rfl, NX⟩, GO.out⟩
    · obtain rfl : k = n := by omega
      have i0 : ((k : Int) < (k : Int)) = False := eq_false (by omega)
      obtain ⟨va, vc, hv, _⟩ := hI.out.own.sl
      have FIN : Hid (CsPost W (ps.map RV.r) (.returned u3) wr) := hidIt (by
        have hh := hI.out
        rw [hv] at hh ⊢
        exact ⟨va, vc, os, rfl, hh.own, hh.new, hh.oks, by rw [hh.eq, List.take_of_length_le (by have := HN.out.1; simp; omega)], hh.below⟩)
      clear hk hlt hI hv
      go_wp2_with fail
      exact bodyPost_ret (v := u3) (by simp [results, Try.results32, go_sem]) rfl FIN.out
end Go.Proofs.Ytelcijfcgflagaa
