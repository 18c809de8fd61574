/-
  Walks, not a claim by itself: u128.Text hands back a number's digits, for every number. By the verifier.
-/
import Derived.Test.YtkpkehbhgfbckaaDiv
import Derived.Laws.BytesArg
namespace Go.Proofs.Ytkpkehbhgfbckaa
open Go.RowKit

theorem text_step (w1 : World) (B k : Nat) (x y x' y' d : Int) (D : List Int) (hD : D.length = 39) (hk : k < 39)
    (c0 : w1.cell? ⟨B, 0, none⟩ = some (.int .u64 x)) (c1 : w1.cell? ⟨B, 1, none⟩ = some (.int .u64 y)) (hc : ∀ j, j < 39 → w1.cell? ⟨B + 1, j, none⟩ = some (.int .u8 (D.getD j 0))) :
    (((w1.setCell ⟨B, 0, none⟩ (.int .u64 x')).setCell ⟨B, 1, none⟩ (.int .u64 y')).setCell ⟨B + 1, k, none⟩ (.int .u8 d)).cell? ⟨B, 0, none⟩ = some (.int .u64 x') ∧
    (((w1.setCell ⟨B, 0, none⟩ (.int .u64 x')).setCell ⟨B, 1, none⟩ (.int .u64 y')).setCell ⟨B + 1, k, none⟩ (.int .u8 d)).cell? ⟨B, 1, none⟩ = some (.int .u64 y') ∧
    ∀ j, j < 39 → (((w1.setCell ⟨B, 0, none⟩ (.int .u64 x')).setCell ⟨B, 1, none⟩ (.int .u64 y')).setCell ⟨B + 1, k, none⟩ (.int .u8 d)).cell? ⟨B + 1, j, none⟩ = some (.int .u8 ((D.set k d).getD j 0)) := by
  refine ⟨?_, ?_, ?_⟩
  · rw [World.cell?_setCell_other _ _ _ _ (by simp), World.cell?_setCell_other _ _ _ _ (by simp), World.cell?_setCell_same _ _ _ c0]
  · rw [World.cell?_setCell_other _ _ _ _ (by simp), World.cell?_setCell_same _ _ _ (u := .int .u64 y)]
    rw [World.cell?_setCell_other _ _ _ _ (by simp), c1]
  · intro j hj
    have h2 : ∀ i, i < 39 → ((w1.setCell ⟨B, 0, none⟩ (.int .u64 x')).setCell ⟨B, 1, none⟩ (.int .u64 y')).cell? ⟨B + 1, i, none⟩ = some (.int .u8 (D.getD i 0)) := by
      intro i hi
      rw [World.cell?_setCell_other _ _ _ _ (by simp), World.cell?_setCell_other _ _ _ _ (by simp), hc i hi]
    rw [getD_set D k j d (by omega)]
    by_cases e : k = j
    · subst e; rw [if_pos rfl, World.cell?_setCell_same _ _ _ (h2 k hj)]
    · rw [if_neg e, World.cell?_setCell_other _ _ _ _ (by simp), h2 j hj]

theorem rep_get (n j : Nat) (v : Value) (h : j < n) : (List.replicate n v).toArray[j]? = some v := by simp [h]
theorem rep_getD (n j : Nat) : (List.replicate n (0 : Int)).getD j 0 = 0 := by
  rw [List.getD_eq_getElem?_getD, List.getElem?_replicate]; split <;> rfl
theorem text_start (w w1 : World) (h l : Int) (C : Array Value) (T : TypeId) (hC : C = (List.replicate 39 (Value.int .u8 0)).toArray)
    (hb : Below ((w.alloc (.cells #[.int .u64 h, .int .u64 l] T)).alloc (.cells C 59)).heap.size ((w.alloc (.cells #[.int .u64 h, .int .u64 l] T)).alloc (.cells C 59)) w1) :
    w1.cell? ⟨w.heap.size, 0, none⟩ = some (.int .u64 h) ∧ w1.cell? ⟨w.heap.size, 1, none⟩ = some (.int .u64 l) ∧ (∀ j, j < 39 → w1.cell? ⟨w.heap.size + 1, j, none⟩ = some (.int .u8 ((List.replicate 39 0).getD j 0))) ∧
    w1.frozen? ⟨w.heap.size, 0, none⟩ = false ∧ w1.frozen? ⟨w.heap.size, 1, none⟩ = false ∧ (∀ j, w1.frozen? ⟨w.heap.size + 1, j, none⟩ = false) ∧ w.heap.size + 1 < w1.heap.size ∧ Below w.heap.size w w1 := by
  obtain ⟨hc, hf⟩ := bcell hb
  have hz : w.heap.size + 1 < w1.heap.size := by have := hb.size; simp at this; omega
  refine ⟨?_, ?_, ?_, ?_, ?_, ?_, hz, ?_⟩
  · rw [hc _ _ (by simp; omega)]; simp [go_sem]
  · rw [hc _ _ (by simp; omega)]; simp [go_sem]
  · intro j hj
    rw [hc _ _ (by simp), World.cell?_alloc_at _ _ _ _ (by simp), hC, rep_get 39 j _ hj, rep_getD]
  · rw [hf _ _ (by simp; omega)]; simp [go_sem]
  · rw [hf _ _ (by simp; omega)]; simp [go_sem]
  · intro j
    rw [hf _ _ (by simp)]; simp [go_sem]
  · exact (((Below.refl _ _).alloc (Nat.le_refl _) _).alloc (by simp) _).trans (hb.mono (by simp; omega))

theorem len59 : Try.prog.arrayLen 59 = 39 := by kernel_rfl
theorem arr59 : Try.prog.underlying 59 = some (.array (Try.prog.arrayLen 59) (Try.prog.elem 59)) := by kernel_rfl
theorem siz59 (w : World) : (sizeOf (Try.prog.elem 59)).run Try.prog w = .ok 1 w := by kernel_rfl
theorem cut59 (b k : Nat) (hk : k < 39) (w : World) : (Instr.sliceAt 59 (.pointer (some ⟨b, 0, none⟩)) (some (.int .i64 k)) none none).run Try.prog w = .ok (.slice (some ⟨b, k, none⟩) (39 - k) (39 - k)) w := by
  rw [run_sliceAt_array_l w 59 _ arr59 .i64 k (by omega) (by rw [len59]; omega), siz59, len59]
  simp only [Result.andThen, slicedAt, Int.toNat_natCast]
  rw [if_neg (by omega)]
  simp [Addr.add]
  omega

/-- What holds at the head of Text's loop: k digits are still to be laid. -/
def TextRel (w : World) (n : Nat) (i : Value) (wr : World) : Prop := ∃ (k : Nat) (x y : Int) (D : List Int), k ≤ 38 ∧ i = .int .i64 k ∧ Word x ∧ Word y ∧ (V x y).toNat < 10 ^ k ∧ D.length = 39 ∧
  wr.cell? ⟨w.heap.size, 0, none⟩ = some (.int .u64 x) ∧ wr.cell? ⟨w.heap.size, 1, none⟩ = some (.int .u64 y) ∧ (∀ j, j < 39 → wr.cell? ⟨w.heap.size + 1, j, none⟩ = some (.int .u8 (D.getD j 0))) ∧
  wr.frozen? ⟨w.heap.size, 0, none⟩ = false ∧ wr.frozen? ⟨w.heap.size, 1, none⟩ = false ∧ (∀ j, wr.frozen? ⟨w.heap.size + 1, j, none⟩ = false) ∧ w.heap.size + 1 < wr.heap.size ∧ Below w.heap.size w wr ∧
  txt n = pre (V x y).toNat (D.drop k)

theorem text_rel0 (w w1 : World) (h l x y : Int) (hx : Word x) (hy : Word y) (h1 : Word h) (h2 : Word l) (hv : V x y = V h l / 10)
    (g0 : w1.cell? ⟨w.heap.size, 0, none⟩ = some (.int .u64 h)) (g1 : w1.cell? ⟨w.heap.size, 1, none⟩ = some (.int .u64 l)) (gD : ∀ j, j < 39 → w1.cell? ⟨w.heap.size + 1, j, none⟩ = some (.int .u8 ((List.replicate 39 0).getD j 0)))
    (f0 : w1.frozen? ⟨w.heap.size, 0, none⟩ = false) (f1 : w1.frozen? ⟨w.heap.size, 1, none⟩ = false) (fD : ∀ j, w1.frozen? ⟨w.heap.size + 1, j, none⟩ = false) (hz : w.heap.size + 1 < w1.heap.size) (bel : Below w.heap.size w w1) :
    TextRel w (V h l).toNat (.int .i64 38) (((w1.setCell ⟨w.heap.size, 0, none⟩ (.int .u64 x)).setCell ⟨w.heap.size, 1, none⟩ (.int .u64 y)).setCell ⟨w.heap.size + 1, 38, none⟩ (.int .u8 (48 + V h l % 10))) := by
  obtain ⟨a1, a2⟩ := h1; obtain ⟨b1, b2⟩ := h2
  obtain ⟨s0, s1, s2⟩ := text_step w1 w.heap.size 38 h l x y (48 + V h l % 10) _ (by simp) (by omega) g0 g1 gD
  have n0 : 0 ≤ V h l := by unfold V; omega
  have n1 : V h l < 340282366920938463463374607431768211456 := by unfold V; omega
  refine ⟨38, x, y, _, by omega, rfl, hx, hy, ?_, by simp, s0, s1, s2, by simp [f0], by simp [f1], by simp [fD], by simp [World.setCell]; omega, ?_, ?_⟩
  · rw [hv, show (10 : Nat) ^ 38 = 100000000000000000000000000000000000000 from by decide]; omega
  · exact (((bel.setCell (Nat.le_refl _) _).setCell (Nat.le_refl _) _).setCell (Nat.le_succ _) _)
  · rw [drop_set _ _ _ (by simp), pre_start, hv]
    congr 1
    · omega
    · rw [show ((((V h l).toNat % 10 : Nat) : Int)) = V h l % 10 from by omega]; rfl

theorem text_rel1 (w w1 : World) (n : Nat) (k : Nat) (x y x' y' : Int) (D : List Int) (hk : k + 1 ≤ 38) (hx : Word x) (hy : Word y) (hx' : Word x') (hy' : Word y') (hv : V x' y' = V x y / 10) (hn : V x y ≠ 0) (hp : (V x y).toNat < 10 ^ (k + 1)) (hD : D.length = 39)
    (g0 : w1.cell? ⟨w.heap.size, 0, none⟩ = some (.int .u64 x)) (g1 : w1.cell? ⟨w.heap.size, 1, none⟩ = some (.int .u64 y)) (gD : ∀ j, j < 39 → w1.cell? ⟨w.heap.size + 1, j, none⟩ = some (.int .u8 (D.getD j 0)))
    (f0 : w1.frozen? ⟨w.heap.size, 0, none⟩ = false) (f1 : w1.frozen? ⟨w.heap.size, 1, none⟩ = false) (fD : ∀ j, w1.frozen? ⟨w.heap.size + 1, j, none⟩ = false) (hz : w.heap.size + 1 < w1.heap.size) (bel : Below w.heap.size w w1)
    (ht : txt n = pre (V x y).toNat (D.drop (k + 1))) :
    TextRel w n (.int .i64 k) (((w1.setCell ⟨w.heap.size, 0, none⟩ (.int .u64 x')).setCell ⟨w.heap.size, 1, none⟩ (.int .u64 y')).setCell ⟨w.heap.size + 1, k, none⟩ (.int .u8 (48 + V x y % 10))) := by
  obtain ⟨a1, a2⟩ := hx; obtain ⟨b1, b2⟩ := hy
  obtain ⟨s0, s1, s2⟩ := text_step w1 w.heap.size k x y x' y' (48 + V x y % 10) D hD (by omega) g0 g1 gD
  have n0 : 0 ≤ V x y := by unfold V; omega
  refine ⟨k, x', y', _, by omega, rfl, hx', hy', ?_, by simp [hD], s0, s1, s2, by simp [f0], by simp [f1], by simp [fD], by simp [World.setCell]; omega, ?_, ?_⟩
  · rw [hv]
    have e : (10 : Nat) ^ (k + 1) = 10 ^ k * 10 := Nat.pow_succ ..
    rw [e] at hp
    generalize (10 : Nat) ^ k = p at *
    omega
  · exact (((bel.setCell (Nat.le_refl _) _).setCell (Nat.le_refl _) _).setCell (Nat.le_succ _) _)
  · rw [drop_set _ _ _ (by omega), ht, pre_step _ _ (by omega), hv]
    congr 1
    · omega
    · rw [show ((((V x y).toNat % 10 : Nat) : Int)) = V x y % 10 from by omega]

set_option maxRecDepth 100000 in
set_option maxHeartbeats 1000000 in
theorem text_any (h l : Int) (w : World) (h1 : Word h) (h2 : Word l) :
    Calls Try.prog 34 #[U h l] w fun e w' => e = .returned (.string (strOfNums (txt (V h l).toNat))) ∧ Below w.heap.size w w' := by
  go_enter Try.func34, Try.ntmps34
  go_wp2_with fail
  refine (cut_any h l _ h1 h2).mono ?_
  rintro e w1 ⟨x, y, rfl, hx, hy, hv, hb⟩
  obtain ⟨g0, g1, gD, f0, f1, fD, hz, bel⟩ := text_start w w1 h l _ _ (by rfl) hb
  have g38 := gD 38 (by omega)
  have f38 := fD 38
  have B : Hid (Below w.heap.size w w1) := bel
  have G : Hid (∀ j, j < 39 → w1.cell? ⟨w.heap.size + 1, j, none⟩ = some (.int .u8 ((List.replicate 39 0).getD j 0))) := gD
  have FD : Hid (∀ j, w1.frozen? ⟨w.heap.size + 1, j, none⟩ = false) := fD
  clear hb gD fD bel
  rw [show (List.replicate 39 (0 : Int)).getD 38 0 = 0 from rfl] at g38
  go_wp2_with fail
  go_loopw [4] (fun i wr => TextRel w (V h l).toNat i wr) (fun i _ => (intOf i).toNat)
  case atStart => exact text_rel0 w w1 h l x y hx hy h1 h2 hv.out g0 g1 G.out f0 f1 FD.out hz B.out
  case round =>
    obtain ⟨k, x, y, D, hk, rfl, hx, hy, hp, hD, g0, g1, gD, f0, f1, fD, hz, bel, ht⟩ := hrel
    obtain ⟨a1, a2⟩ := hx
    obtain ⟨b1, b2⟩ := hy
    have HT : Hid (txt (V h l).toNat = pre (V x y).toNat (D.drop k)) := ht
    have HD : Hid (D.length = 39) := hD
    have HP : Hid ((V x y).toNat < 10 ^ k) := hp
    have GD : Hid (∀ j, j < 39 → wr.cell? ⟨w.heap.size + 1, j, none⟩ = some (.int .u8 (D.getD j 0))) := gD
    have BE : Hid (Below w.heap.size w wr) := bel
    clear ht hD hp gD bel hv B G FD
    by_cases hn : V x y = 0
    · have ex : x = 0 := by unfold V at hn; omega
      have ey : y = 0 := by unfold V at hn; omega
      subst ex ey
      clear hn
      have hsl := cut59 (w.heap.size + 1) k (by omega)
      have hcv := run_convert_bytes_arg (P := Try.prog) wr 34 5 Try.underlying34 Try.underlying5 (w.heap.size + 1) k (39 - k) (39 - k) (D.drop k) (by rw [List.length_drop, HD.out]) (fun i hi => by
        rw [GD.out (k + i) (by omega)]; simp [List.getD_eq_getElem?_getD]) 9 Try.underlying9
      go_wp2_with fail
      go_ret
      refine ⟨?_, BE.out⟩
      have := HT.out
      rw [this]
      rfl
    · have hk0 : k ≠ 0 := by
        intro e; subst e
        have := HP.out
        have q : 0 ≤ V x y := by unfold V; omega
        simp at this
        omega
      obtain ⟨k, rfl⟩ : ∃ m, k = m + 1 := ⟨k - 1, by omega⟩
      clear hk0
      have HN : Hid (¬ V x y = 0) := hn
      have gk := GD.out k (by omega)
      have fk := fD k
      by_cases ex : x = 0
      · have ey : ¬ y = 0 := by subst ex; unfold V at hn; omega
        clear hn
        subst ex
        go_wp2_with fail
        refine (cut_any 0 y _ word_zero ⟨b1, b2⟩).mono ?_
        rintro e w2 ⟨x', y', rfl, hx', hy', hv', hb2⟩
        have j0 := (hb2.cell (p := ⟨w.heap.size, 0, none⟩) (by simp; omega)).trans g0
        have j1 := (hb2.cell (p := ⟨w.heap.size, 1, none⟩) (by simp; omega)).trans g1
        have jk := (hb2.cell (p := ⟨w.heap.size + 1, k, none⟩) (by simp; omega)).trans gk
        have i0 := (hb2.frozen (p := ⟨w.heap.size, 0, none⟩) (by simp; omega)).trans f0
        have i1 := (hb2.frozen (p := ⟨w.heap.size, 1, none⟩) (by simp; omega)).trans f1
        have ik := (hb2.frozen (p := ⟨w.heap.size + 1, k, none⟩) (by simp; omega)).trans fk
        go_wp2_with fail
        refine ⟨?_, by simp [intOf]⟩
        exact text_rel1 w w2 _ k 0 y x' y' D (by omega) word_zero ⟨b1, b2⟩ hx' hy' hv'.out HN.out HP.out HD.out j0 j1 (fun j hj => (hb2.cell (p := ⟨w.heap.size + 1, j, none⟩) (by simp; omega)).trans (GD.out j hj)) i0 i1
          (fun j => (hb2.frozen (p := ⟨w.heap.size + 1, j, none⟩) (by simp; omega)).trans (fD j)) (by have := hb2.size; omega) (BE.out.trans (hb2.mono (by omega))) HT.out
      · clear hn
        go_wp2_with fail
        refine (cut_any x y _ ⟨a1, a2⟩ ⟨b1, b2⟩).mono ?_
        rintro e w2 ⟨x', y', rfl, hx', hy', hv', hb2⟩
        have j0 := (hb2.cell (p := ⟨w.heap.size, 0, none⟩) (by simp; omega)).trans g0
        have j1 := (hb2.cell (p := ⟨w.heap.size, 1, none⟩) (by simp; omega)).trans g1
        have jk := (hb2.cell (p := ⟨w.heap.size + 1, k, none⟩) (by simp; omega)).trans gk
        have i0 := (hb2.frozen (p := ⟨w.heap.size, 0, none⟩) (by simp; omega)).trans f0
        have i1 := (hb2.frozen (p := ⟨w.heap.size, 1, none⟩) (by simp; omega)).trans f1
        have ik := (hb2.frozen (p := ⟨w.heap.size + 1, k, none⟩) (by simp; omega)).trans fk
        go_wp2_with fail
        refine ⟨?_, by simp [intOf]⟩
        exact text_rel1 w w2 _ k x y x' y' D (by omega) ⟨a1, a2⟩ ⟨b1, b2⟩ hx' hy' hv'.out HN.out HP.out HD.out j0 j1 (fun j hj => (hb2.cell (p := ⟨w.heap.size + 1, j, none⟩) (by simp; omega)).trans (GD.out j hj)) i0 i1
          (fun j => (hb2.frozen (p := ⟨w.heap.size + 1, j, none⟩) (by simp; omega)).trans (fD j)) (by have := hb2.size; omega) (BE.out.trans (hb2.mono (by omega))) HT.out
end Go.Proofs.Ytkpkehbhgfbckaa
