/-
  Plain facts and walks, not a claim by itself: what Open and Head answer of the chapter's message. By the verifier.
-/
import Derived.Test.YtkmgjpeoognpjaaDoorMKn1
namespace Go.Proofs.YtkmgjpeoognpjaaDoor
open Go.RowKit
theorem msg_congr (h h' : Nat → Int) (a : Option Addr) (n C : Nat) (hh : ∀ j, j < 16 → h j = h' j) : msg h a n C = msg h' a n C := by unfold msg; rw [hcs_congr h h' hh]
/-- The bytes of the chapter's message. -/
def abF : Nat → Int := msgF hAb 2 fnAb
theorem abF_inner (j : Nat) (h : j < 240) : abF (16 + j) = fnHd j := by
  have k : ((List.range 240).all fun j => innerF hAb sAb (16 + j) == fnHd j) = true := by kernel_rfl
  rw [List.all_eq_true] at k
  have := k j (List.mem_range.2 h)
  rw [beq_iff_eq] at this
  rw [← this, abF, msgF, if_pos (by omega), headF_high _ _ _ (by omega), innerF_congr hAb hAb (sealF 2 fnAb) sAb (fun _ _ => rfl) seal_Ab _ (by omega)]
theorem abF_body (j : Nat) : abF (256 + j) = fnAb j := by unfold abF msgF; rw [if_neg (by omega), Nat.add_sub_cancel_left]
theorem abF_byte (j : Nat) (h : j < 258) : 0 ≤ abF j ∧ abF j < 256 := by
  by_cases e : j < 256
  · unfold abF msgF; rw [if_pos e]; exact headF_byte _ _ (fun j _ => sealF_byte _ _ j) j
  · obtain ⟨i, rfl⟩ : ∃ i, j = 256 + i := ⟨j - 256, by omega⟩
    rw [abF_body]; exact ab_byte i (by omega)
theorem abF_head : abF 0 = 239 := by
  rw [show abF 0 = headF hAb (sealF 2 fnAb) 0 from rfl, headF_low _ _ 0 (by omega), sealF_congr 240 _ fnHd (fun j hj => ?_), seal_Hd 0 (by omega)]
  · rfl
  · rw [← abF_inner j hj, abF, msgF, if_pos (by omega), headF_high _ _ _ (by omega)]
theorem ab_open : openCode 258 abF = 0 ∧ (∀ j, j < 16 → hdrF abF j = hAb j) ∧ headCode abF = 0 := open_sealed hAb fnAb 2 ok_ab words_ab rfl
theorem ab_hdr : hcs (headVal abF) = hcs hAb := by
  rw [show headVal abF = hdrF abF from by unfold headVal; rw [if_pos ab_open.2.2]]
  exact hcs_congr _ _ ab_open.2.1
theorem ab_short : openCode 257 abF = 4 := by
  unfold openCode
  rw [if_neg (by omega), if_neg (by rw [ab_open.2.2]; simp), if_pos (by rw [ab_open.2.1 2 (by omega)]; decide)]
theorem ps_head (f g : Nat → Int) (n : Nat) (h : ∀ j, j < 256 → f j = g j) (o c : Nat) (ho : o + c ≤ 256) (hn : n = c) : ps (fun i => f (o + i)) n = ps (fun i => g (o + i)) n := ps_congr _ _ n (fun j hj => h _ (by omega))
theorem hdrF_congr (f g : Nat → Int) (h : ∀ j, j < 256 → f j = g j) (j : Nat) (hj : j < 16) : hdrF f j = hdrF g j := by
  rcases pos_cover j hj with rfl | rfl | rfl | ⟨k, hk, rfl⟩
  · rw [hdrF_9, hdrF_9, ps_head f g 8 h 76 8 (by omega) rfl]
  · rw [hdrF_10, hdrF_10, ps_head f g 8 h 68 8 (by omega) rfl]
  · rw [hdrF_13, hdrF_13, ps_head f g 8 h 92 8 (by omega) rfl]
  · have := fat_le k hk
    rw [hdrF_num _ k hk, hdrF_num _ k hk, ps_head f g 4 h (fat k) 4 (by omega) rfl]
theorem headCode_congr (f g : Nat → Int) (h : ∀ j, j < 256 → f j = g j) : headCode f = headCode g := by
  have a : headSeal f = headSeal g := by
    unfold headSeal
    rw [sealF_congr 240 (fun j => f (16 + j)) (fun j => g (16 + j)) (fun j hj => h _ (by omega)), Bool.eq_iff_iff, eqN_iff, eqN_iff]
    exact ⟨fun k i hi => (k i hi).trans (h i (by omega)), fun k i hi => (k i hi).trans (h i (by omega)).symm⟩
  have b : headNone f = headNone g := by
    unfold headNone
    rw [Bool.eq_iff_iff, zeroN_iff, zeroN_iff]
    exact ⟨fun k i hi => (h _ (by omega)).symm.trans (k i hi), fun k i hi => (h _ (by omega)).trans (k i hi)⟩
  have c : okH (hdrF f) = okH (hdrF g) := okH_congr _ _ (hdrF_congr f g h)
  unfold headCode
  rw [a, b, c]
theorem ab_turn257 : openCode 258 (upd abF 257 (bits .xor .u8 (abF 257) 1)) = 12 := by
  have x : bits .xor .u8 (abF 257) 1 = 99 := by rw [show abF 257 = 98 from abF_body 1]; kernel_rfl
  rw [x]
  have low : ∀ j, j < 256 → upd abF 257 99 j = abF j := fun j hj => by unfold upd; rw [if_neg (by omega)]
  have hb : bodySeal 258 (upd abF 257 99) = false := by
    rw [Bool.eq_false_iff]
    intro h
    have := (eqN_iff _ _ _).1 h 0 (by omega)
    rw [sealF_congr (258 - 256) _ fnAc (fun j hj => by
      match j, hj with
      | 0, _ => exact (show upd abF 257 99 256 = abF 256 from by unfold upd; rw [if_neg (by omega)]).trans (abF_body 0)
      | 1, _ => rfl
      | j + 2, hj => omega), seal_Ac 0 (by omega), low (16 + 0) (by omega), abF_inner 0 (by omega)] at this
    revert this
    decide
  unfold openCode
  rw [if_neg (by omega), headCode_congr _ abF low, if_neg (by rw [ab_open.2.2]; simp), if_neg (by rw [hdrF_congr _ abF low 2 (by omega), ab_open.2.1 2 (by omega)]; decide), if_pos hb]
theorem ab_turn50 : openCode 258 (upd abF 50 (bits .xor .u8 (abF 50) 1)) = 12 := by
  have x : bits .xor .u8 (abF 50) 1 = 1 := by rw [show abF 50 = 0 from abF_inner 34 (by omega)]; kernel_rfl
  rw [x]
  have k : ((List.range 240).all fun j => (if j = 34 then 1 else fnHd j) == fnHt j) = true := by kernel_rfl
  rw [List.all_eq_true] at k
  have hs : headSeal (upd abF 50 1) = false := by
    rw [Bool.eq_false_iff]
    intro h
    have := (eqN_iff _ _ _).1 h 0 (by omega)
    rw [sealF_congr 240 _ fnHt (fun j hj => by
      have q := k j (List.mem_range.2 hj)
      rw [beq_iff_eq] at q
      rw [← q]
      unfold upd
      by_cases e : j = 34
      · rw [if_pos (by omega), if_pos e]
      · rw [if_neg (by omega), if_neg e, abF_inner j hj]), seal_Ht 0 (by omega), show upd abF 50 1 0 = abF 0 from rfl, abF_head] at this
    revert this
    decide
  have hc : headCode (upd abF 50 1) = 12 := by unfold headCode; rw [if_pos hs]
  unfold openCode
  rw [if_neg (by omega), hc, if_pos (by decide)]
theorem upd_byte (f : Nat → Int) (n o : Nat) (v : Int) (hf : ∀ j, j < n → 0 ≤ f j ∧ f j < 256) (hv : 0 ≤ v ∧ v < 256) (j : Nat) (hj : j < n) : 0 ≤ upd f o v j ∧ upd f o v j < 256 := by
  unfold upd
  split
  · exact hv
  · exact hf j hj
theorem open_ab (g : Nat) (w : World) (hT : Tab w) (hR : IRow w g .u8 258 abF) :
    Calls Tryd.prog 17 #[.slice (some ⟨g, 0, none⟩) 258 258] w fun e w' => ∃ q, e = .returned (ME hAb (some ⟨q, 0, none⟩) 2 0) ∧ w.heap.size ≤ q ∧ Lies w' q 0 2 fnAb ∧ Below w.heap.size w w' := by
  refine (mopen_ok _ 258 258 abF w hT (Arg.of (hR.lies abF_byte)) (Nat.le_refl _) (by omega) ab_open.1).mono ?_
  rintro e w' ⟨q, rfl, hq, hR', hB⟩
  refine ⟨q, ?_, hq, hR'.congr (fun j _ => abF_body j) |>.lies ab_byte, hB⟩
  show Ending.returned (.tuple #[.agg (msg (hdrF abF) (some ⟨q, 0, none⟩) 2 2).toArray, .int .i64 0]) = _
  rw [msg_congr _ hAb _ _ _ ab_open.2.1]
theorem open_ab257 (g : Nat) (w : World) (hT : Tab w) (hR : IRow w g .u8 258 abF) :
    Calls Tryd.prog 17 #[.slice (some ⟨g, 0, none⟩) 257 258] w fun e w' => e = .returned (ME (fun _ => 0) none 0 4) ∧ Below w.heap.size w w' := by
  have := mopen_no (some ⟨g, 0, none⟩) 257 258 abF w hT (Arg.of ⟨fun j hj => by rw [Nat.zero_add]; exact hR.1 j (by omega), fun j hj => abF_byte j (by omega), hR.2.2⟩) (by omega) (by omega) (by rw [ab_short]; decide)
  rwa [ab_short] at this
theorem open_turned (g cap o : Nat) (w : World) (hT : Tab w) (hc : 258 ≤ cap) (hR : IRow w g .u8 258 (upd abF o (bits .xor .u8 (abF o) 1))) (hb : 0 ≤ bits .xor .u8 (abF o) 1 ∧ bits .xor .u8 (abF o) 1 < 256) (ho : openCode 258 (upd abF o (bits .xor .u8 (abF o) 1)) = 12) :
    Calls Tryd.prog 17 #[.slice (some ⟨g, 0, none⟩) 258 cap] w fun e w' => e = .returned (ME (fun _ => 0) none 0 12) ∧ Below w.heap.size w w' := by
  have := mopen_no (some ⟨g, 0, none⟩) 258 cap _ w hT (Arg.of (hR.lies (upd_byte abF 258 o _ abF_byte hb))) hc (by omega) (by rw [ho]; decide)
  rwa [ho] at this
theorem x257 : 0 ≤ bits .xor .u8 (abF 257) 1 ∧ bits .xor .u8 (abF 257) 1 < 256 := by
  rw [show bits .xor .u8 (abF 257) 1 = 99 from by rw [show abF 257 = 98 from abF_body 1]; kernel_rfl]; decide
theorem x50 : 0 ≤ bits .xor .u8 (abF 50) 1 ∧ bits .xor .u8 (abF 50) 1 < 256 := by
  rw [show bits .xor .u8 (abF 50) 1 = 1 from by rw [show abF 50 = 0 from abF_inner 34 (by omega)]; kernel_rfl]; decide
theorem head_ab (g : Nat) (w : World) (hT : Tab w) (hR : IRow w g .u8 258 abF) :
    Calls Tryd.prog 19 #[.slice (some ⟨g, 0, none⟩) 256 258] w fun e w' => e = .returned (HE hAb 0) ∧ Below w.heap.size w w' := by
  refine (head_any g 0 258 abF w hT ⟨fun j hj => by rw [Nat.zero_add]; exact hR.1 j (by omega), fun j hj => abF_byte j (by omega), hR.2.2⟩ (by omega)).mono ?_
  rintro e w' ⟨rfl, hB⟩
  refine ⟨?_, hB⟩
  show Ending.returned (.tuple #[.agg (hcs (headVal abF)).toArray, .int .i64 (headCode abF)]) = _
  rw [ab_hdr, ab_open.2.2]
end Go.Proofs.YtkmgjpeoognpjaaDoor
