/-
  Walks, not a claim by itself: lists that are copied. By the verifier.
-/
import Derived.Test.YtgpafmgncolnmaaMgKj
namespace Go.Proofs.Ytgpafmgncolnmaa
open Go.RowKit
attribute [-go_sem] Builtin.append_
/-- What holds at the head of allCopied's loop. -/
structure AcI (W : World) (ps : List PV) (k : Nat) (wr : World) (lv : Value) (os : List PV) : Prop where
  ci : CpI W ps k wr lv os
  frs : ∀ x ∈ os, FrC wr W.heap.size x.k x.p.k ∧ FrC wr W.heap.size x.v x.p.v
theorem AcI.step {W W4 W5 W6 : World} {ps os : List PV} {k H4 : Nat} {lv v6 : Value} {x y : PV} (h : AcI W ps k W4 lv os) (hB : Below W4.heap.size W4 W5) (hy : FrC W5 H4 y.k y.p.k ∧ FrC W5 H4 y.v y.p.v) (hH : W4.heap.size ≤ H4) (hI : Insd W5 lv (os ++ [y]) v6 W6) (hx : ps[k]? = some x) (hp : y.p = x.p) : AcI W ps (k + 1) W6 v6 (os ++ [y]) := by
  have lt : ∀ b, b ∈ lv.ownBlock.toList → b < H4 := fun b hb => by
    cases e : lv.ownBlock with
    | none => rw [e] at hb; cases hb
    | some g => rw [e] at hb; simp at hb; subst hb; have := (World.ownsRow.lt h.ci.own _ e).2; omega
  have py : PVOk W5 lv.ownBlock.toList y := ⟨hy.1.txt lt, hy.2.txt lt⟩
  have s4 := h.ci.below.size
  refine ⟨h.ci.step hB py hI hx hp, fun z hz => ?_⟩
  rcases List.mem_append.1 hz with hz | hz
  · have a := (h.ci.oks z hz).below hB
    have f := h.frs z hz
    exact ⟨(f.1.below hB).offT a.1 hI.off, (f.2.below hB).offT a.2 hI.off⟩
  · rcases List.mem_singleton.1 hz with rfl
    exact ⟨(hy.1.offT py.1 hI.off).low (by omega), (hy.2.offT py.2 hI.off).low (by omega)⟩
/-- What allCopied answers. -/
def AcPost (W : World) (ps : List PV) (e : Ending) (w' : World) : Prop := ∃ a C os, e = .returned (.slice a os.length C) ∧ OwnP w' 0 (.slice a os.length C) os ∧ (∀ g, (Value.slice a os.length C).ownBlock = some g → W.heap.size ≤ g) ∧ (∀ x ∈ os, PVOk w' (Value.slice a os.length C).ownBlock.toList x ∧ FrC w' W.heap.size x.k x.p.k ∧ FrC w' W.heap.size x.v x.p.v) ∧ os.map PV.p = ps.map PV.p ∧ os.length = ps.length ∧ Below W.heap.size W w'
theorem make_room (n : Nat) (hn : n ≤ 10000) (W : World) : ∃ W', (Instr.makeSlice 27 (.int .i64 0) (.int .i64 (n : Int))).run Try.prog W = .ok (.slice (some ⟨W.heap.size, 0, none⟩) 0 n) W' ∧ OwnP W' 0 (.slice (some ⟨W.heap.size, 0, none⟩) 0 n) [] ∧ Below W.heap.size W W' := by
  obtain ⟨i0, hi, hz0, hz1, hz2⟩ := info_parts info_pair
  obtain ⟨W', h1, h2, h3⟩ := run_make_own (P := Try.prog) W 0 27 32 i0 (.agg #[.slice none 0 0, .slice none 0 0, .bool false]) 3 under_pairs hi hz0 hz1 .i64 .i64 n (by rw [hz2]; omega) (by unfold maxLen; omega) (Nat.zero_le _)
  exact ⟨W', h1, h2, (Below.refl _ _).grown h3 (Nat.le_refl _) (fun k hk => by cases hk)⟩
set_option maxRecDepth 100000 in
set_option maxHeartbeats 2000000 in
theorem allCopied_any {W : World} {a : Option Addr} {ps : List PV} (n C : Nat) (hn : ps.length = n) (hL : Lst W a ps) (hf : n ≤ 10000) (hs : ∀ x ∈ ps, x.p.k.size ≤ 1000000 ∧ x.p.v.size ≤ 1000000) : Calls Try.prog 42 #[.slice a n C] W (AcPost W ps) := by
  have HL := hidIt hL
  have HN := hidIt (And.intro hn (And.intro hf hs))
  obtain ⟨W1, hmk, hO, hB⟩ := make_room n hf W
  have st : Hid (AcI W ps 0 W1 (.slice (some ⟨W.heap.size, 0, none⟩) 0 n) []) := hidIt ⟨⟨hO, fun g hg => by injection hg with hg; exact Nat.le_of_eq hg, fun x hx => (by cases hx), rfl, rfl, hB⟩, fun x hx => (by cases hx)⟩
  clear hL hn hf hs hO hB
  go_enter Try.func42, Try.ntmps42
  go_wp2_with fail
  go_loopw [3, 11] (fun lv i wr => ∃ (k : Nat) (os : List PV), k ≤ n ∧ i = .int .i64 (k : Int) ∧ Hid (AcI W ps k wr lv os)) (fun _ i _ => n - (RowKit.intOf i).toNat)
  case atStart => exact ⟨0, _, Nat.zero_le _, rfl, st⟩
  case round =>
    clear st hmk
    obtain ⟨k, os, hk, rfl, hI⟩ := hrel
    by_cases hlt : k < n
    · obtain ⟨x, hx⟩ : ∃ x, ps[k]? = some x := ⟨_, List.getElem?_eq_getElem (by have := HN.out.1; omega)⟩
      obtain ⟨bl, o1, ha, hr, l1⟩ := (HL.out.below hI.out.ci.below).at k x hx
      subst ha
      have OK := hidIt (HL.out.1 x (List.mem_of_getElem? hx))
      have SM := hidIt (HN.out.2.2 x (List.mem_of_getElem? hx))
      have HX := hidIt hx
      have LT := hidIt hlt
      obtain ⟨i0, i1, i2, i3⟩ := k_ar k n hlt (by have := HN.out.2.1; omega)
      clear hx l1 hlt hk
      go_wp2_with (first
        | (refine wpList_load_mid rfl 32 (.tmp 13) rfl bl (o1 + k * 3) rfl x.cs _ hr Try.underlying32 rfl pair_size ?_; clear hr)
        | (refine wpList_alloc_rec rfl 32 rfl _ wr.heap.size rfl pair_zero ?_; intro W2 R2 B2 z2; have E2 := hidIt (And.intro B2 z2); have P2 := hidIt R2; clear R2 B2 z2)
        | (refine wpList_store_rec rfl 32 (.tmp 5) (.tmp 14) rfl wr.heap.size 0 _ x.cs rfl rfl P2.out rfl pair_size (OK.out.one) ?_; intro W3 R3 B3; have E3 := hidIt (E2.out.1.trans (B3.below (Nat.le_refl _) (by have := E2.out.2; omega))); have P3 := hidIt R3; clear R3 B3)
        | (refine wpList_load_rec rfl 32 (.tmp 5) rfl wr.heap.size 0 x.cs rfl _ Try.underlying32 rfl pair_size P3.out ?_)
        | (go_at_call 34; refine (ucopied_any (OK.out.below (hI.out.ci.below.trans (E3.out.mono hI.out.ci.below.size))) SM.out.1 SM.out.2).mono ?_; rintro e W4 ⟨k', v', rfl, Fk, Fv, B4⟩; obtain ⟨ka, kn, kC, rfl⟩ := Fk.sl; obtain ⟨va, vn, vC, rfl⟩ := Fv.sl; have E4 := hidIt (E3.out.trans (B4.mono E3.out.size)); have F4 := hidIt (And.intro Fk Fv); clear Fk Fv B4; refine Held.out ?_))
      have A5 : Below W4.heap.size W4 (W4.alloc (.cells (PV.mk (.slice ka kn kC) (.slice va vn vC) x.p).cs.toArray 32)) := (Below.refl _ _).alloc (Nat.le_refl _) _
      have L5 : Lone (W4.alloc (.cells (PV.mk (.slice ka kn kC) (.slice va vn vC) x.p).cs.toArray 32)) W4.heap.size (PV.mk (.slice ka kn kC) (.slice va vn vC) x.p) := ⟨heap_alloc_new W4 _, by
        intro u hu
        simp only [PV.cs, List.mem_cons, List.not_mem_nil, or_false] at hu
        rcases hu with rfl | rfl | rfl <;> rfl⟩
      obtain ⟨W5, hW5⟩ : ∃ W5, W5 = W4.alloc (.cells (PV.mk (.slice ka kn kC) (.slice va vn vC) x.p).cs.toArray 32) := ⟨_, rfl⟩
      rw [← hW5] at A5 L5
      have dB : Below wr.heap.size wr W5 := E4.out.trans (A5.mono E4.out.size)
      obtain ⟨v6, W6, hr6, I6⟩ := app_pairs 27 W5 u3 os [PV.mk (.slice ka kn kC) (.slice va vn vC) x.p] ⟨W4.heap.size, 0, none⟩ 1 (hI.out.ci.own.below dB) (fun j u hj => by rw [pcs_single] at hj; rw [Addr.add_mid, Nat.zero_add]; exact L5.cell j u hj) (by rw [pcs_single]; exact L5.2) (by simp) (by have := hI.out.ci.len; have := LT.out; have := HN.out.2.1; simp; omega)
      simp only [List.length_singleton] at hr6
      have NX : Hid (AcI W ps (k + 1) W6 v6 (os ++ [PV.mk (.slice ka kn kC) (.slice va vn vC) x.p])) := hidIt (hI.out.step dB ⟨F4.out.1.below A5, F4.out.2.below A5⟩ E3.out.size I6 HX.out rfl)
      have HW5 := hidIt hW5
      clear hW5 A5 L5 dB I6 F4
      refine Held.mk ?_
      go_wp2_with (first
        | (refine wpList_run_w (by rfl) (.slice (some ⟨W4.heap.size, 0, none⟩) 1 1) W5 (by rw [HW5.out]; exact bsl_run 27 32 1 _ rfl 3 56 _ _ _ under_pairs info_pair (by decide) (by decide) rfl (by kernel_rfl)) ?_)
        | (at_builtin; refine wpList_append_go rfl (.tmp 15) (.tmp 18) 27 27 rfl _ _ rfl rfl hr6 ?_))
      exact ⟨⟨k + 1, _, LT.out, rfl, NX⟩, meas_k n k _ rfl LT.out⟩
    · obtain rfl : k = n := by omega
      have i0 : ((k : Int) < (k : Int)) = False := eq_false (by omega)
      obtain ⟨ua, uc, hu, _⟩ := hI.out.ci.own.slice
      have FIN : Hid (AcPost W ps (.returned u3) wr) := hidIt ⟨ua, uc, os, by rw [hu], by rw [← hu]; exact hI.out.ci.own, by rw [← hu]; exact hI.out.ci.new, by rw [← hu]; exact fun x hx => ⟨hI.out.ci.oks x hx, hI.out.frs x hx⟩, by rw [hI.out.ci.map, List.take_of_length_le (by have := HN.out.1; omega)], by rw [hI.out.ci.len, HN.out.1], hI.out.ci.below⟩
      clear hlt hk hu
      go_wp2_with fail
      exact bodyPost_ret (v := u3) (by simp [results, Try.results42, go_sem]) rfl FIN.out
end Go.Proofs.Ytgpafmgncolnmaa
