/-
  Walks, not a claim by itself: the cursor's take64, take32, take16. By the verifier.
-/
import Derived.Test.YtlcnhmlcmedonaaTake
import Derived.Test.YtlcnhmlcmedonaaR19
namespace Go.Proofs.Ytlcnhmlcmedonaa
open Go.RowKit
theorem Rec19.set {W : World} {n : Nat} {cs : List Value} (h : Rec19 W n 0 cs) (o : Nat) (v : Value) (ho : o < cs.length) : Rec19 (W.setCell ⟨n, o, none⟩ v) n 0 (cs.set o v) := by
  have hs : (W.cell? ⟨n, o, none⟩).isSome = true := by have := (h.2.1 o ho).1; rwa [Nat.zero_add] at this
  have g : ∀ j, (W.setCell ⟨n, o, none⟩ v).cell? ⟨n, j, none⟩ = if j = o then some v else W.cell? ⟨n, j, none⟩ := fun j => by
    by_cases e : j = o
    · subst e
      rw [if_pos rfl, World.cell?_setCell_same' _ _ _ hs]
    · rw [if_neg e, World.cell?_setCell_other _ (a := ⟨n, o, none⟩) (b := ⟨n, j, none⟩) _ (fun q => e (by injection q with _ q; exact q.symm))]
  refine ⟨fun j u hj => ?_, fun j hj => ⟨?_, ?_⟩, ?_⟩
  · rw [Nat.zero_add, g j]
    rw [List.getElem?_set] at hj
    by_cases e : o = j
    · subst e
      rw [if_pos rfl, if_pos ho] at hj
      rw [if_pos rfl, hj]
    · rw [if_neg e] at hj
      rw [if_neg (fun q => e q.symm)]
      have := h.1 j u hj
      rwa [Nat.zero_add] at this
  · rw [Nat.zero_add, g j]
    by_cases e : j = o
    · rw [if_pos e]; rfl
    · rw [if_neg e]
      have := (h.2.1 j (by simpa using hj)).1
      rwa [Nat.zero_add] at this
  · rw [World.frozen?_setCell]
    exact (h.2.1 j (by simpa using hj)).2
  · simpa [World.setCell] using h.2.2
theorem Rec19.at {W : World} {n : Nat} {cs : List Value} (h : Rec19 W n 0 cs) (o : Nat) (ho : o < cs.length) : (∃ v, W.cell? ⟨n, o, none⟩ = some v) ∧ W.frozen? ⟨n, o, none⟩ = false := by
  have := h.2.1 o ho
  rw [Nat.zero_add] at this
  exact ⟨Option.isSome_iff_exists.1 this.1, this.2⟩

set_option maxRecDepth 100000 in
set_option maxHeartbeats 1000000 in
theorem take64_mid (b off L C n o : Nat) (cs : List Value) (f : Nat → Int) (w : World) (h : Lies w b off 8 f) (hr : Rec19 w n 0 cs) (hc : o < cs.length) (hL : 8 ≤ L) (ho : 8 < C) :
    Calls Try.prog 50 #[.agg #[.slice (some ⟨b, off, none⟩) L C], .pointer (some ⟨n, o, none⟩)] w fun e w' => e = .returned (.agg #[.slice (some ⟨b, off + 8, none⟩) (L - 8) (C - 8)]) ∧ Rec19 w' n 0 (cs.set o (.int .u64 (ps f 8))) ∧ But n w w' := by
  have LL : Hid (Lies w b off 8 f) := h
  have hnw := hr.2.2
  have RR : Hid (Rec19 w n 0 cs) := hr
  clear h hr
  go_enter Try.func50, Try.ntmps50
  go_wp2_with fail
  refine (take_mid b off L C 8 f _ ((LL.out.alloc _).alloc _) (by decide) hL ho).mono ?_
  rintro e w1 ⟨rfl, hB⟩
  have B1 : But n w w1 := (((But.refl _ _).alloc _).alloc _).trans (But.of hB)
  have R1 : Rec19 w1 n 0 cs := RR.out.below ((((Below.refl _ _).alloc (Nat.le_refl _) _).alloc (by simp) _).trans (hB.mono (by simp; omega)))
  have c1 := (hB.cell (p := ⟨w.heap.size + 1, 0, none⟩) (by simp)).trans (by simp [go_sem] : _ = some (.slice none 0 0))
  have f1 := (hB.frozen (p := ⟨w.heap.size + 1, 0, none⟩) (by simp)).trans (by simp [go_sem] : _ = false)
  obtain ⟨⟨v0, d0⟩, g0⟩ := R1.at o hc
  have RH : Hid (Rec19 w1 n 0 cs) := R1
  have BH : Hid (But n w w1) := B1
  have ne : ¬ n = w.heap.size + 1 := by omega
  have z2 : w.heap.size + 1 < w1.heap.size := by have := hB.size; simp at this; omega
  have z1 : n < w1.heap.size := by omega
  have ne2 : ¬ n = w1.heap.size := by omega
  have ne3 : ¬ w.heap.size + 1 = w1.heap.size := by omega
  clear hB B1 R1
  go_wp2_with fail
  refine bodyPost_ret (v := .agg #[.slice (some ⟨b, off + 8, none⟩) (L - 8) (C - 8)]) (by simp [results, Try.results50, go_sem, c1, z2]) rfl ⟨rfl, ?_, ?_⟩
  · exact (((RH.out.set o _ hc).but (But.set (b := w.heap.size + 1) _ 0 _) ne)).below ((Below.refl _ _).alloc (Nat.le_refl _) _)
  · exact ((BH.out.put (.inl rfl) _).put (.inr (Nat.le_succ _)) _).alloc _

set_option maxRecDepth 100000 in
set_option maxHeartbeats 1000000 in
theorem take32_mid (b off L C n o : Nat) (cs : List Value) (f : Nat → Int) (w : World) (h : Lies w b off 4 f) (hr : Rec19 w n 0 cs) (hc : o < cs.length) (hL : 4 ≤ L) (ho : 4 < C) :
    Calls Try.prog 51 #[.agg #[.slice (some ⟨b, off, none⟩) L C], .pointer (some ⟨n, o, none⟩)] w fun e w' => e = .returned (.agg #[.slice (some ⟨b, off + 4, none⟩) (L - 4) (C - 4)]) ∧ Rec19 w' n 0 (cs.set o (.int .u32 (ps f 4))) ∧ But n w w' := by
  have LL : Hid (Lies w b off 4 f) := h
  have hnw := hr.2.2
  have RR : Hid (Rec19 w n 0 cs) := hr
  clear h hr
  have wx : IntKind.u32.wrap (ps f 4) = ps f 4 := by
    have := ps_bound f 4 LL.out.2.1
    rw [IntKind.wrap_u32]
    exact Int.emod_eq_of_lt this.1 this.2
  go_enter Try.func51, Try.ntmps51
  go_wp2_with fail
  refine (take_mid b off L C 4 f _ ((LL.out.alloc _).alloc _) (by decide) hL ho).mono ?_
  rintro e w1 ⟨rfl, hB⟩
  have B1 : But n w w1 := (((But.refl _ _).alloc _).alloc _).trans (But.of hB)
  have R1 : Rec19 w1 n 0 cs := RR.out.below ((((Below.refl _ _).alloc (Nat.le_refl _) _).alloc (by simp) _).trans (hB.mono (by simp; omega)))
  have c1 := (hB.cell (p := ⟨w.heap.size + 1, 0, none⟩) (by simp)).trans (by simp [go_sem] : _ = some (.slice none 0 0))
  have f1 := (hB.frozen (p := ⟨w.heap.size + 1, 0, none⟩) (by simp)).trans (by simp [go_sem] : _ = false)
  obtain ⟨⟨v0, d0⟩, g0⟩ := R1.at o hc
  have RH : Hid (Rec19 w1 n 0 cs) := R1
  have BH : Hid (But n w w1) := B1
  have ne : ¬ n = w.heap.size + 1 := by omega
  have z2 : w.heap.size + 1 < w1.heap.size := by have := hB.size; simp at this; omega
  have z1 : n < w1.heap.size := by omega
  have ne2 : ¬ n = w1.heap.size := by omega
  have ne3 : ¬ w.heap.size + 1 = w1.heap.size := by omega
  clear hB B1 R1
  go_wp2_with fail
  refine bodyPost_ret (v := .agg #[.slice (some ⟨b, off + 4, none⟩) (L - 4) (C - 4)]) (by simp [results, Try.results51, go_sem, c1, z2]) rfl ⟨rfl, ?_, ?_⟩
  · exact (((RH.out.set o _ hc).but (But.set (b := w.heap.size + 1) _ 0 _) ne)).below ((Below.refl _ _).alloc (Nat.le_refl _) _)
  · exact ((BH.out.put (.inl rfl) _).put (.inr (Nat.le_succ _)) _).alloc _

set_option maxRecDepth 100000 in
set_option maxHeartbeats 1000000 in
theorem take16_mid (b off L C n o : Nat) (cs : List Value) (f : Nat → Int) (w : World) (h : Lies w b off 2 f) (hr : Rec19 w n 0 cs) (hc : o < cs.length) (hL : 2 ≤ L) (ho : 2 < C) :
    Calls Try.prog 52 #[.agg #[.slice (some ⟨b, off, none⟩) L C], .pointer (some ⟨n, o, none⟩)] w fun e w' => e = .returned (.agg #[.slice (some ⟨b, off + 2, none⟩) (L - 2) (C - 2)]) ∧ Rec19 w' n 0 (cs.set o (.int .u16 (ps f 2))) ∧ But n w w' := by
  have LL : Hid (Lies w b off 2 f) := h
  have hnw := hr.2.2
  have RR : Hid (Rec19 w n 0 cs) := hr
  clear h hr
  have wx : IntKind.u16.wrap (ps f 2) = ps f 2 := by
    have := ps_bound f 2 LL.out.2.1
    rw [IntKind.wrap_u16]
    exact Int.emod_eq_of_lt this.1 this.2
  go_enter Try.func52, Try.ntmps52
  go_wp2_with fail
  refine (take_mid b off L C 2 f _ ((LL.out.alloc _).alloc _) (by decide) hL ho).mono ?_
  rintro e w1 ⟨rfl, hB⟩
  have B1 : But n w w1 := (((But.refl _ _).alloc _).alloc _).trans (But.of hB)
  have R1 : Rec19 w1 n 0 cs := RR.out.below ((((Below.refl _ _).alloc (Nat.le_refl _) _).alloc (by simp) _).trans (hB.mono (by simp; omega)))
  have c1 := (hB.cell (p := ⟨w.heap.size + 1, 0, none⟩) (by simp)).trans (by simp [go_sem] : _ = some (.slice none 0 0))
  have f1 := (hB.frozen (p := ⟨w.heap.size + 1, 0, none⟩) (by simp)).trans (by simp [go_sem] : _ = false)
  obtain ⟨⟨v0, d0⟩, g0⟩ := R1.at o hc
  have RH : Hid (Rec19 w1 n 0 cs) := R1
  have BH : Hid (But n w w1) := B1
  have ne : ¬ n = w.heap.size + 1 := by omega
  have z2 : w.heap.size + 1 < w1.heap.size := by have := hB.size; simp at this; omega
  have z1 : n < w1.heap.size := by omega
  have ne2 : ¬ n = w1.heap.size := by omega
  have ne3 : ¬ w.heap.size + 1 = w1.heap.size := by omega
  clear hB B1 R1
  go_wp2_with fail
  refine bodyPost_ret (v := .agg #[.slice (some ⟨b, off + 2, none⟩) (L - 2) (C - 2)]) (by simp [results, Try.results52, go_sem, c1, z2]) rfl ⟨rfl, ?_, ?_⟩
  · exact (((RH.out.set o _ hc).but (But.set (b := w.heap.size + 1) _ 0 _) ne)).below ((Below.refl _ _).alloc (Nat.le_refl _) _)
  · exact ((BH.out.put (.inl rfl) _).put (.inr (Nat.le_succ _)) _).alloc _

set_option maxRecDepth 100000 in
set_option maxHeartbeats 1000000 in
theorem take64_end (b off L C n o : Nat) (cs : List Value) (f : Nat → Int) (w : World) (h : Lies w b off 8 f) (hr : Rec19 w n 0 cs) (hc : o < cs.length) (hL : 8 = L) (ho : 8 = C) :
    Calls Try.prog 50 #[.agg #[.slice (some ⟨b, off, none⟩) L C], .pointer (some ⟨n, o, none⟩)] w fun e w' => e = .returned (.agg #[.slice (some ⟨b, off, none⟩) 0 0]) ∧ Rec19 w' n 0 (cs.set o (.int .u64 (ps f 8))) ∧ But n w w' := by
  subst hL
  subst ho
  have LL : Hid (Lies w b off 8 f) := h
  have hnw := hr.2.2
  have RR : Hid (Rec19 w n 0 cs) := hr
  clear h hr
  go_enter Try.func50, Try.ntmps50
  go_wp2_with fail
  refine (take_end b off 8 8 8 f _ ((LL.out.alloc _).alloc _) (by decide) rfl rfl).mono ?_
  rintro e w1 ⟨rfl, hB⟩
  have B1 : But n w w1 := (((But.refl _ _).alloc _).alloc _).trans (But.of hB)
  have R1 : Rec19 w1 n 0 cs := RR.out.below ((((Below.refl _ _).alloc (Nat.le_refl _) _).alloc (by simp) _).trans (hB.mono (by simp; omega)))
  have c1 := (hB.cell (p := ⟨w.heap.size + 1, 0, none⟩) (by simp)).trans (by simp [go_sem] : _ = some (.slice none 0 0))
  have f1 := (hB.frozen (p := ⟨w.heap.size + 1, 0, none⟩) (by simp)).trans (by simp [go_sem] : _ = false)
  obtain ⟨⟨v0, d0⟩, g0⟩ := R1.at o hc
  have RH : Hid (Rec19 w1 n 0 cs) := R1
  have BH : Hid (But n w w1) := B1
  have ne : ¬ n = w.heap.size + 1 := by omega
  have z2 : w.heap.size + 1 < w1.heap.size := by have := hB.size; simp at this; omega
  have z1 : n < w1.heap.size := by omega
  have ne2 : ¬ n = w1.heap.size := by omega
  have ne3 : ¬ w.heap.size + 1 = w1.heap.size := by omega
  clear hB B1 R1
  go_wp2_with fail
  refine bodyPost_ret (v := .agg #[.slice (some ⟨b, off, none⟩) 0 0]) (by simp [results, Try.results50, go_sem, c1, z2]) rfl ⟨rfl, ?_, ?_⟩
  · exact (((RH.out.set o _ hc).but (But.set (b := w.heap.size + 1) _ 0 _) ne)).below ((Below.refl _ _).alloc (Nat.le_refl _) _)
  · exact ((BH.out.put (.inl rfl) _).put (.inr (Nat.le_succ _)) _).alloc _
end Go.Proofs.Ytlcnhmlcmedonaa
