/-
  Walks, not a claim by itself: Loose. By the verifier.
-/
import Derived.Test.YtoehbljnapdbgaaDOne
import Derived.Test.YtoehbljnapdbgaaShelf
import Derived.Shelf.AbstractIn
namespace Go.Proofs.Ytoehbljnapdbgaa
open Go.RowKit Go.Maps Go.Sort Go.Shelf
theorem sorts_int (m : Nat) : AnyZI.SortsIn Try.prog Try.laysSorted_ren Fence.wide m :=
  ⟨fun blk off cap ss W hH hblk hsz => callsIn_wide.2 (AnyM.slices_Sort_int Try.laysSort blk off cap ss W hH hblk hsz),
   fun p cap W => callsIn_wide.2 (AnyM.slices_Sort_int_none Try.laysSort p cap W)⟩
theorem keys_any (mb : Option Nat) (W : World) : Calls Try.prog 57 #[.map mb] W fun e w' => e = .returned (.func (.func 68) #[] #[.pointer (some ⟨W.heap.size, 0, none⟩)]) ∧ w' = W.alloc (.cells #[.map mb] 35) :=
  (callsIn_wide (n := 5)).1 (AnyZI.keys_in Try.laysKeys Fence.wide 5 trivial rfl mb W)
theorem loose_sorted {N : Nat} {lo : Nat → Bool} {ss : List Int} (h : ss.Perm (looseL N lo)) : ss.mergeSort (fun x y => decide (x ≤ y)) = looseL N lo := by
  have e := mergeSort_of_perm_i h
  refine e.trans (List.mergeSort_of_pairwise ?_)
  exact (looseL_sorted N lo).imp (fun h => by simpa [leI] using h)
/-- What Loose answers. -/
def LoosePost (W : World) (N : Nat) (lo : Nat → Bool) (e : Ending) (w' : World) : Prop := ∃ v, e = .returned v ∧ w'.ownsRow W.heap.size 3 1 v (looseL N lo).length ((looseL N lo).map encZ) ∧ Below W.heap.size W w'
theorem sorted_any (W : World) (m N n : Nat) (D0 : DataW Value) (lo : Nat → Bool) (ob : Nat → Int) (hown : W.ownsMap Try.prog 3 heldR m n D0) (k : OldIs D0 N lo ob) (hN : N ≤ 65536) :
    Calls Try.prog 56 #[.func (.func 68) #[] #[.pointer (some ⟨W.heap.size, 0, none⟩)]] (W.alloc (.cells #[.map (some m)] 35)) (LoosePost W N lo) := by
  have hz := keys_size hown k
  have hl := looseL_len N lo
  have hbl := hown.lt
  have hseq : SeqGives Fence.wide 2 Try.prog 68 #[.pointer (some ⟨W.heap.size, 0, none⟩)] encZ (fun ss => ss.Perm (intKeys D0)) (Maps.size D0) (W.alloc (.cells #[.map (some m)] 35)) :=
    AnyZI.keys_gives (ρ := Try.laysKeys_ren) { Try.laysKeys with } Fence.wide _ trivial rfl (by omega) W.heap.size m n D0 _ (by simp) (by simp) (by
      obtain ⟨es, clock, hb, Ft, hs, hD⟩ := hown
      exact ⟨es, clock, (Below.heap_alloc _ _ m hbl).trans hb, Ft, hs, hD⟩)
  have cS := AnyZI.sorted_in Try.laysSorted Fence.wide 5 trivial trivial trivial trivial rfl (by omega) (sorts_int _) (enters_of Try.func67 (by kernel_rfl) rfl) 68 #[.pointer (some ⟨W.heap.size, 0, none⟩)] trivial (enters_of Try.func68 (by kernel_rfl) rfl) _ _ (by unfold maxLen; omega) (by omega) _ hseq
  change CallsIn _ _ Try.prog 56 _ _ _ at cS
  refine (callsIn_wide.1 cS).mono ?_
  rintro e w' ⟨v, ss, rfl, hS, hrow, hnil, hb⟩
  have hp : ss.Perm (looseL N lo) := hS.trans (keys_perm hown k).symm
  rw [loose_sorted hp, hp.length_eq] at hrow
  exact ⟨v, rfl, ownsRow_base_a hrow (by simp), ((Below.refl _ W).alloc (Nat.le_refl _) _).trans (hb.mono (by simp))⟩
theorem loose_ok (W : World) (d s m : Nat) (D : Dsk) (h : DiskAt W d s m D) : Calls Try.prog 18 #[.pointer (some ⟨d, 0, none⟩)] W (LoosePost W D.N D.lo) := by
  obtain ⟨c2, _⟩ := h.recd.cel 2 _ rfl
  obtain ⟨D0, hown, k⟩ := h.map.tight
  have HS : Hid (Calls Try.prog 56 #[.func (.func 68) #[] #[.pointer (some ⟨W.heap.size, 0, none⟩)]] (W.alloc (.cells #[.map (some m)] 35)) (LoosePost W D.N D.lo)) := sorted_any W m D.N D.N D0 D.lo D.ob hown k h.n2
  have HD : Hid (DiskAt W d s m D) := h
  clear h hown k
  go_enter Try.func18, Try.ntmps18
  go_wp2_with (first
    | (go_at_call 55; refine (made_ok _ d s m D HD.out).mono ?_; rintro e w1 ⟨rfl, rfl⟩)
    | (go_at_call 57; refine (keys_any _ _).mono ?_; rintro e w1 ⟨rfl, rfl⟩)
    | (go_at_call 56; refine HS.out.mono ?_; rintro e w1 ⟨v, rfl, h1, h2⟩))
  go_ret
  exact ⟨v, rfl, h1, h2⟩
end Go.Proofs.Ytoehbljnapdbgaa
