/-
  Plain facts, not a claim by itself: what MemtableScript keeps in memory, beside blocks that are written over. By the verifier.
-/
import Derived.Test.YtandkedipjmdbaaMtSi
import Derived.Test.YtandkedipjmdbaaBLent
namespace Go.Proofs.Ytandkedipjmdbaa
open Go.RowKit
variable {H : Nat} {W W2 W3 : World} {P t r : Nat} {v lv : Value} {qs rs : List PV} {N : List Nat}
/-- The tables, and blocks that are none of theirs. -/
structure SN (N : List Nat) (H : Nat) (W : World) (P t r : Nat) (v : Value) (qs : List PV) (lv : Value) (rs : List PV) : Prop where
  si : SI H W P t r v qs lv rs
  dj : ∀ b, b ∈ N → b ∉ P :: (t :: v.ownBlock.toList ++ r :: lv.ownBlock.toList)
  tq : ∀ x ∈ qs, PVOk W N x
  tr : ∀ x ∈ rs, PVOk W N x
  lt : ∀ b, b ∈ N → b < W.heap.size
theorem SI.lt (h : SI H W P t r v qs lv rs) : ∀ b, b ∈ P :: (t :: v.ownBlock.toList ++ r :: lv.ownBlock.toList) → b < W.heap.size := fun b hb => by
  rcases List.mem_cons.1 hb with rfl | hb
  · exact h.pr.2.2
  · rcases List.mem_append.1 hb with hb | hb
    · exact h.tab.lt b hb
    · exact h.ref.lt b hb
theorem SN.of (h : SI H W P t r v qs lv rs) (hB : Below W.heap.size W W2) (hN : ∀ b, b ∈ N → W.heap.size ≤ b ∧ b < W2.heap.size) : SN N H W2 P t r v qs lv rs :=
  ⟨h.more hB, fun b hb q => by have := (hN b hb).1; have := h.lt b q; omega, fun x hx => ((h.okQ x hx).mono (fun b hb => .inr (hN b hb).1)).below hB, fun x hx => ((h.okR x hx).mono (fun b hb => .inr (hN b hb).1)).below hB, fun b hb => (hN b hb).2⟩
theorem SN.more (h : SN N H W P t r v qs lv rs) (hB : Below W.heap.size W W2) : SN N H W2 P t r v qs lv rs :=
  ⟨h.si.more hB, h.dj, fun x hx => (h.tq x hx).below hB, fun x hx => (h.tr x hx).below hB, fun b hb => Nat.lt_of_lt_of_le (h.lt b hb) hB.size⟩
theorem SN.sub {M : List Nat} (h : SN N H W P t r v qs lv rs) (hM : ∀ b, b ∈ M → b ∈ N) : SN M H W P t r v qs lv rs :=
  ⟨h.si, fun b hb => h.dj b (hM b hb), fun x hx => (h.tq x hx).mono (fun b hb => .inl (hM b hb)), fun x hx => (h.tr x hx).mono (fun b hb => .inl (hM b hb)), fun b hb => h.lt b (hM b hb)⟩
theorem SN.off {M : List Nat} (h : SN N H W P t r v qs lv rs) (hO : Off M W W2) (hM : ∀ b, b ∈ M → b ∈ N) : SN N H W2 P t r v qs lv rs :=
  have h' := h.sub hM
  ⟨h.si.off hO h'.dj h'.tq h'.tr, h.dj, fun x hx => (h.tq x hx).both (h'.tq x hx) hO, fun x hx => (h.tr x hx).both (h'.tr x hx) hO, fun b hb => Nat.lt_of_lt_of_le (h.lt b hb) hO.size⟩
theorem SN.layT {v' : Value} {qs' : List PV} (h : SN N H W P t r v qs lv rs) (hT' : Tab W3 t v' qs') (hO : Off (t :: v.ownBlock.toList) W W3) (hv : ∀ g, v'.ownBlock = some g → v.ownBlock = some g ∨ W.heap.size ≤ g) (hF : ∀ y ∈ qs', y ∈ qs ∨ ∀ M : List Nat, (∀ b, b ∈ M → b < W.heap.size) → PVOk W3 M y) : SN N H W3 P t r v' qs' lv rs := by
  refine ⟨h.si.layT hT' hO hv hF, fun b hb q => ?_, fun x hx => ?_, fun x hx => ?_, fun b hb => Nat.lt_of_lt_of_le (h.lt b hb) hO.size⟩
  · rcases List.mem_cons.1 q with q | q
    · exact h.dj b hb (by simp [q])
    · rcases List.mem_append.1 q with q | q
      · rcases List.mem_cons.1 q with q | q
        · exact h.dj b hb (by simp [q])
        · rcases own_new hv b q with z | z
          · exact h.dj b hb (List.mem_cons_of_mem _ (List.mem_append_left _ (List.mem_cons_of_mem _ z)))
          · have := h.lt b hb; omega
      · exact h.dj b hb (List.mem_cons_of_mem _ (List.mem_append_right _ q))
  · rcases hF x hx with q | q
    · exact (h.tq x q).both (h.si.tab.ok x q) hO
    · exact q _ h.lt
  · exact (h.tr x hx).both ((h.si.okR x hx).mono (fun b hb => .inl (List.mem_cons_of_mem _ hb))) hO
theorem SN.layR {lv' : Value} {rs' : List PV} (h : SN N H W P t r v qs lv rs) (hR' : RT W3 r lv' rs') (hO : Off [r] W W3) (hv : ∀ g, lv'.ownBlock = some g → lv.ownBlock = some g ∨ W.heap.size ≤ g) (hF : ∀ y ∈ rs', y ∈ rs ∨ ∀ M : List Nat, (∀ b, b ∈ M → b < W.heap.size) → PVOk W3 M y) : SN N H W3 P t r v qs lv' rs' := by
  refine ⟨h.si.layR hR' hO hv hF, fun b hb q => ?_, fun x hx => ?_, fun x hx => ?_, fun b hb => Nat.lt_of_lt_of_le (h.lt b hb) hO.size⟩
  · rcases List.mem_cons.1 q with q | q
    · exact h.dj b hb (by simp [q])
    · rcases List.mem_append.1 q with q | q
      · exact h.dj b hb (List.mem_cons_of_mem _ (List.mem_append_left _ q))
      · rcases List.mem_cons.1 q with q | q
        · exact h.dj b hb (List.mem_cons_of_mem _ (List.mem_append_right _ (by simp [q])))
        · rcases own_new hv b q with z | z
          · exact h.dj b hb (List.mem_cons_of_mem _ (List.mem_append_right _ (List.mem_cons_of_mem _ z)))
          · have := h.lt b hb; omega
  · exact (h.tq x hx).both ((h.si.okQ x hx).mono (fun b hb => .inl (by simp at hb; simp [hb]))) hO
  · rcases hF x hx with q | q
    · exact (h.tr x q).both ((h.si.ref.ok x q).mono (fun b hb => .inl (by simp at hb; simp [hb]))) hO
    · exact q _ h.lt
/-- Bytes that were lent, as a text. -/
theorem lent_text {w : World} {g n : Nat} {f : Nat → Int} {t : ByteArray} (h : IRow w g .u8 (n + 3) (lentF n f 3)) (hf : ∀ j, j < n → 0 ≤ f j ∧ f j < 256) (hn : t.size = n) (ht : txtN n f = t) : Txt w [] (.slice (some ⟨g, 0, none⟩) n (n + 3)) t := by
  subst hn
  refine ⟨some ⟨g, 0, none⟩, _, f, rfl, ?_, ht, fun _ _ _ h => by cases h⟩
  by_cases h0 : t.size = 0
  · exact .inl ⟨h0, .inr ⟨_, rfl⟩⟩
  · exact .inr ⟨by omega, g, 0, rfl, fun j hj => by rw [Nat.zero_add, h.1 j (by omega), lentF_low _ _ _ _ hj], hf, h.2.2⟩
/-- What a step of the script leaves. -/
def StP (H : Nat) (W : World) (P : Nat) (w' : World) : Prop := ∃ t r v qs lv rs, SI H w' P t r v qs lv rs ∧ rs.map PV.p = qs.map PV.p ∧ Below H W w'
end Go.Proofs.Ytandkedipjmdbaa
