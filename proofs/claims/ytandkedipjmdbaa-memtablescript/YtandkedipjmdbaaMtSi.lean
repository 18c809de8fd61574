/-
  Plain facts, not a claim by itself: what MemtableScript keeps in memory. By the verifier.
-/
import Derived.Test.YtandkedipjmdbaaMtOv
namespace Go.Proofs.Ytandkedipjmdbaa
open Go.RowKit
/-- The pair of tables in memory: H is the size of the heap ahead of them. -/
structure SI (H : Nat) (W : World) (P t r : Nat) (v : Value) (qs : List PV) (lv : Value) (rs : List PV) : Prop where
  tab : Tab W t v qs
  ref : RT W r lv rs
  pr : Rec19 W P 0 [.pointer (some ⟨t, 0, none⟩), .pointer (some ⟨r, 0, none⟩)]
  sepT : ∀ b, b ∈ t :: v.ownBlock.toList → b ∉ P :: r :: lv.ownBlock.toList
  sepR : ∀ b, b ∈ r :: lv.ownBlock.toList → b ≠ P
  okQ : ∀ x ∈ qs, PVOk W (P :: r :: lv.ownBlock.toList) x
  okR : ∀ x ∈ rs, PVOk W (P :: t :: v.ownBlock.toList) x
  hP : H ≤ P
  hT : ∀ b, b ∈ t :: v.ownBlock.toList → H ≤ b
  hR : ∀ b, b ∈ r :: lv.ownBlock.toList → H ≤ b
variable {H : Nat} {W W2 W3 : World} {P t r : Nat} {v lv : Value} {qs rs : List PV}
theorem SI.more (h : SI H W P t r v qs lv rs) (hB : Below W.heap.size W W2) : SI H W2 P t r v qs lv rs :=
  ⟨h.tab.below hB, h.ref.below hB, h.pr.below hB, h.sepT, h.sepR, fun x hx => (h.okQ x hx).below hB, fun x hx => (h.okR x hx).below hB, h.hP, h.hT, h.hR⟩
theorem SI.size (h : SI H W P t r v qs lv rs) : H ≤ W.heap.size := Nat.le_trans h.hP (Nat.le_of_lt h.pr.2.2)
/-- Other blocks are changed. -/
theorem SI.off (h : SI H W P t r v qs lv rs) {N : List Nat} (hO : Off N W W2) (hN : ∀ b, b ∈ N → b ∉ P :: (t :: v.ownBlock.toList ++ r :: lv.ownBlock.toList)) (hq : ∀ x ∈ qs, PVOk W N x) (hr : ∀ x ∈ rs, PVOk W N x) : SI H W2 P t r v qs lv rs :=
  ⟨h.tab.off hO (fun b hb q => hN b hb (List.mem_cons_of_mem _ (List.mem_append_left _ q))) hq, h.ref.off hO (fun b hb q => hN b hb (List.mem_cons_of_mem _ (List.mem_append_right _ q))) hr, h.pr.off hO (fun q => hN P q (by simp)), h.sepT, h.sepR, fun x hx => (h.okQ x hx).both (hq x hx) hO, fun x hx => (h.okR x hx).both (hr x hx) hO, h.hP, h.hT, h.hR⟩
theorem own_new {v v' : Value} {n : Nat} (hv : ∀ g, v'.ownBlock = some g → v.ownBlock = some g ∨ n ≤ g) : ∀ b, b ∈ v'.ownBlock.toList → b ∈ v.ownBlock.toList ∨ n ≤ b := fun b hb => by
  cases e : v'.ownBlock with
  | none => rw [e] at hb; cases hb
  | some g =>
    rw [e] at hb
    simp at hb
    subst hb
    rcases hv _ e with q | q
    · exact .inl (by rw [q]; simp)
    · exact .inr q
theorem SI.ltT (h : SI H W P t r v qs lv rs) : ∀ b, b ∈ P :: t :: v.ownBlock.toList → b < W.heap.size := fun b hb => by
  rcases List.mem_cons.1 hb with rfl | hb
  · exact h.pr.2.2
  · exact h.tab.lt b hb
theorem SI.ltR (h : SI H W P t r v qs lv rs) : ∀ b, b ∈ P :: r :: lv.ownBlock.toList → b < W.heap.size := fun b hb => by
  rcases List.mem_cons.1 hb with rfl | hb
  · exact h.pr.2.2
  · exact h.ref.lt b hb
/-- A pair was laid in the table. -/
theorem SI.layT {v' : Value} {qs' : List PV} (h : SI H W P t r v qs lv rs) (hT' : Tab W3 t v' qs') (hO : Off (t :: v.ownBlock.toList) W W3) (hv : ∀ g, v'.ownBlock = some g → v.ownBlock = some g ∨ W.heap.size ≤ g) (hF : ∀ y ∈ qs', y ∈ qs ∨ ∀ M : List Nat, (∀ b, b ∈ M → b < W.heap.size) → PVOk W3 M y) : SI H W3 P t r v' qs' lv rs := by
  have nv := own_new hv
  have hPt : P ∉ t :: v.ownBlock.toList := fun q => h.sepT P q (by simp)
  have okT : ∀ x ∈ rs, PVOk W (t :: v.ownBlock.toList) x := fun x hx => (h.okR x hx).mono (fun b hb => .inl (List.mem_cons_of_mem _ hb))
  refine ⟨hT', h.ref.off hO (fun b hb q => h.sepT b hb (List.mem_cons_of_mem _ q)) okT, h.pr.off hO hPt, fun b hb q => ?_, h.sepR, fun x hx => ?_, fun x hx => ?_, h.hP, fun b hb => ?_, h.hR⟩
  · rcases List.mem_cons.1 hb with rfl | hb
    · exact h.sepT b (by simp) q
    · rcases nv b hb with z | z
      · exact h.sepT b (List.mem_cons_of_mem _ z) q
      · have := h.ltR b q
        omega
  · rcases hF x hx with q | q
    · exact (h.okQ x q).both (h.tab.ok x q) hO
    · exact q _ h.ltR
  · refine ((h.okR x hx).mono (M := P :: t :: v'.ownBlock.toList) (fun b hb => ?_)).both (okT x hx) hO
    rcases List.mem_cons.1 hb with rfl | hb
    · exact .inl (by simp)
    · rcases List.mem_cons.1 hb with rfl | hb
      · exact .inl (by simp)
      · rcases nv b hb with z | z
        · exact .inl (by simp [z])
        · exact .inr z
  · rcases List.mem_cons.1 hb with rfl | hb
    · exact h.hT b (by simp)
    · rcases nv b hb with z | z
      · exact h.hT b (List.mem_cons_of_mem _ z)
      · exact Nat.le_trans h.size z
/-- A pair was laid in the reference's. -/
theorem SI.layR {lv' : Value} {rs' : List PV} (h : SI H W P t r v qs lv rs) (hR' : RT W3 r lv' rs') (hO : Off [r] W W3) (hv : ∀ g, lv'.ownBlock = some g → lv.ownBlock = some g ∨ W.heap.size ≤ g) (hF : ∀ y ∈ rs', y ∈ rs ∨ ∀ M : List Nat, (∀ b, b ∈ M → b < W.heap.size) → PVOk W3 M y) : SI H W3 P t r v qs lv' rs' := by
  have nv := own_new hv
  have okQ' : ∀ x ∈ qs, PVOk W [r] x := fun x hx => (h.okQ x hx).mono (fun b hb => .inl (by simp at hb; simp [hb]))
  refine ⟨h.tab.off hO (fun b hb q => h.sepT b q (by simp at hb; simp [hb])) okQ', hR', h.pr.off hO (fun q => h.sepR r (by simp) (by simp at q; exact q.symm)), fun b hb q => ?_, fun b hb q => ?_, fun x hx => ?_, fun x hx => ?_, h.hP, h.hT, fun b hb => ?_⟩
  · rcases List.mem_cons.1 q with q | q
    · exact h.sepT b hb (by simp [q])
    · rcases List.mem_cons.1 q with q | q
      · exact h.sepT b hb (by simp [q])
      · rcases nv b q with z | z
        · exact h.sepT b hb (by simp [z])
        · have := h.tab.lt b hb
          omega
  · rcases List.mem_cons.1 hb with rfl | hb
    · exact h.sepR b (by simp) q
    · rcases nv b hb with z | z
      · exact h.sepR b (List.mem_cons_of_mem _ z) q
      · have := h.pr.2.2
        omega
  · refine ((h.okQ x hx).mono (M := P :: r :: lv'.ownBlock.toList) (fun b hb => ?_)).both (okQ' x hx) hO
    rcases List.mem_cons.1 hb with rfl | hb
    · exact .inl (by simp)
    · rcases List.mem_cons.1 hb with rfl | hb
      · exact .inl (by simp)
      · rcases nv b hb with z | z
        · exact .inl (by simp [z])
        · exact .inr z
  · rcases hF x hx with q | q
    · exact (h.okR x q).both ((h.ref.ok x q).mono (fun b hb => .inl (by simp at hb; simp [hb]))) hO
    · exact q _ h.ltT
  · rcases List.mem_cons.1 hb with rfl | hb
    · exact h.hR b (by simp)
    · rcases nv b hb with z | z
      · exact h.hR b (List.mem_cons_of_mem _ z)
      · exact Nat.le_trans h.size z
/-- The table's place is taken by a clone. -/
theorem SI.clT {t2 : Nat} {v2 : Value} (h : SI H W P t r v qs lv rs) (hT2 : Tab W2 t2 v2 qs) (ht : W.heap.size ≤ t2) (hv : ∀ g, v2.ownBlock = some g → W.heap.size ≤ g) (hB : Below W.heap.size W W2) (hR : Rec19 W3 P 0 [.pointer (some ⟨t2, 0, none⟩), .pointer (some ⟨r, 0, none⟩)]) (hBt : But P W2 W3) : SI H W3 P t2 r v2 qs lv rs := by
  have n2 : ∀ b, b ∈ t2 :: v2.ownBlock.toList → W.heap.size ≤ b := tab_new hv ht
  have hO : Off [P] W2 W3 := Off.but hBt (by simp)
  have hPl := h.pr.2.2
  have okq : ∀ x ∈ qs, PVOk W (P :: r :: lv.ownBlock.toList) x := h.okQ
  refine ⟨hT2.off hO (fun b hb q => ?_) (fun x hx => ?_), (h.ref.below hB).off hO (fun b hb q => ?_) (fun x hx => ?_), hR, fun b hb q => ?_, h.sepR, fun x hx => ?_, fun x hx => ?_, h.hP, fun b hb => Nat.le_trans h.size (n2 b hb), h.hR⟩
  · simp at hb; subst hb; have := n2 _ q; omega
  · exact ((okq x hx).mono (fun b hb => .inl (by simp at hb; simp [hb]))).below hB
  · simp at hb; subst hb; exact h.sepR _ q rfl
  · exact ((h.okR x hx).mono (fun b hb => .inl (by simp at hb; simp [hb]))).below hB
  · have := n2 b hb; have := h.ltR b q; omega
  · exact ((okq x hx).below hB).both (((okq x hx).mono (fun b hb => .inl (by simp at hb; simp [hb]))).below hB) hO
  · refine PVOk.both (N := [P]) (((h.okR x hx).mono (fun b hb => ?_)).below hB) (((h.okR x hx).mono (fun b hb => .inl (by simp at hb; simp [hb]))).below hB) hO
    rcases List.mem_cons.1 hb with rfl | hb
    · exact .inl (by simp)
    · exact .inr (n2 b hb)
/-- The reference's place is taken by a clone. -/
theorem SI.clR {r2 : Nat} {lv2 : Value} (h : SI H W P t r v qs lv rs) (hR2 : RT W2 r2 lv2 rs) (ht : W.heap.size ≤ r2) (hv : ∀ g, lv2.ownBlock = some g → W.heap.size ≤ g) (hB : Below W.heap.size W W2) (hR : Rec19 W3 P 0 [.pointer (some ⟨t, 0, none⟩), .pointer (some ⟨r2, 0, none⟩)]) (hBt : But P W2 W3) : SI H W3 P t r2 v qs lv2 rs := by
  have n2 : ∀ b, b ∈ r2 :: lv2.ownBlock.toList → W.heap.size ≤ b := tab_new hv ht
  have hO : Off [P] W2 W3 := Off.but hBt (by simp)
  have hPl := h.pr.2.2
  refine ⟨(h.tab.below hB).off hO (fun b hb q => ?_) (fun x hx => ?_), hR2.off hO (fun b hb q => ?_) (fun x hx => ?_), hR, fun b hb q => ?_, fun b hb q => ?_, fun x hx => ?_, fun x hx => ?_, h.hP, h.hT, fun b hb => Nat.le_trans h.size (n2 b hb)⟩
  · simp at hb; subst hb; exact h.sepT _ q (by simp)
  · exact ((h.okQ x hx).mono (fun b hb => .inl (by simp at hb; simp [hb]))).below hB
  · simp at hb; subst hb; have := n2 _ q; omega
  · exact ((h.okR x hx).mono (fun b hb => .inl (by simp at hb; simp [hb]))).below hB
  · rcases List.mem_cons.1 q with q | q
    · exact h.sepT b hb (by simp [q])
    · have := n2 b q; have := h.tab.lt b hb; omega
  · have := n2 b hb; omega
  · refine PVOk.both (N := [P]) (((h.okQ x hx).mono (fun b hb => ?_)).below hB) (((h.okQ x hx).mono (fun b hb => .inl (by simp at hb; simp [hb]))).below hB) hO
    rcases List.mem_cons.1 hb with rfl | hb
    · exact .inl (by simp)
    · exact .inr (n2 b hb)
  · exact ((h.okR x hx).below hB).both (((h.okR x hx).mono (fun b hb => .inl (by simp at hb; simp [hb]))).below hB) hO
end Go.Proofs.Ytandkedipjmdbaa
