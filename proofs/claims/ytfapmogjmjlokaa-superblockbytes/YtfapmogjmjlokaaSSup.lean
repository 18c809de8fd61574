/-
  Plain notions, not a claim by itself: superblocks, their numbers and their bytes. By the verifier.
-/
import Derived.Test.YtfapmogjmjlokaaMPlain
import Derived.Test.YtfapmogjmjlokaaCOpn
namespace Go.Proofs.Ytfapmogjmjlokaa
open Go.RowKit
/-- A superblock: nine numbers, whether it fetches, how many heads there are, their numbers. -/
structure Sup where
  x : Nat → Int
  f : Bool
  k : Nat
  h : Nat → Int
/-- Fetching as a number. -/
def fetN (b : Bool) : Int := if b = true then 1 else 0
/-- The numbers behind the seal. -/
def Sup.num (s : Sup) (i : Nat) : Int := if i < 9 then s.x i else if i = 9 then fetN s.f else if i = 10 then (s.k : Int) else if i < 11 + 2 * s.k then s.h (i - 11) else 0
/-- The bytes behind the seal. -/
def Sup.beh (s : Sup) (j : Nat) : Int := byt (s.num (j / 4)) (j % 4)
/-- A number within bounds. -/
def InR (n a b : Int) : Prop := a ≤ n ∧ n ≤ b
instance (n a b : Int) : Decidable (InR n a b) := by unfold InR; infer_instance
/-- The greatest op. -/
def mOp : Int := 1073741824
/-- Which superblocks may be. -/
def Sup.May (s : Sup) : Prop := (s.x 2 = 3 ∨ s.x 2 = 5 ∨ s.x 2 = 7) ∧ s.k ≤ 32 ∧ InR (s.x 0) 1 mOp ∧ InR (s.x 1) 0 (s.x 2 - 1) ∧ InR (s.x 3) 0 mOp ∧ InR (s.x 4) 0 mOp ∧ InR (s.x 5) 0 mOp ∧ InR (s.x 6) 0 mOp ∧ InR (s.x 7) 0 512 ∧ InR (s.x 8) 0 mOp ∧ ∀ j, j < 2 * s.k → InR (s.h j) 0 mOp
noncomputable instance (s : Sup) : Decidable s.May := Classical.propDecidable _
/-- Two superblocks are the same. -/
def Sup.Eq (s t : Sup) : Prop := s.k = t.k ∧ s.f = t.f ∧ (∀ i, i < 9 → s.x i = t.x i) ∧ ∀ j, j < 2 * s.k → s.h j = t.h j
theorem Sup.Eq.refl (s : Sup) : s.Eq s := ⟨rfl, rfl, fun _ _ => rfl, fun _ _ => rfl⟩
theorem Sup.Eq.symm {s t : Sup} (h : s.Eq t) : t.Eq s := ⟨h.1.symm, h.2.1.symm, fun i hi => (h.2.2.1 i hi).symm, fun j hj => (h.2.2.2 j (by rw [h.1]; exact hj)).symm⟩
theorem Sup.Eq.trans {s t u : Sup} (h : s.Eq t) (k : t.Eq u) : s.Eq u := ⟨h.1.trans k.1, h.2.1.trans k.2.1, fun i hi => (h.2.2.1 i hi).trans (k.2.2.1 i hi), fun j hj => (h.2.2.2 j hj).trans (k.2.2.2 j (by rw [← h.1]; exact hj))⟩
theorem Sup.Eq.may {s t : Sup} (h : s.Eq t) (m : s.May) : t.May := by
  obtain ⟨h1, h2, h3, h4⟩ := h
  unfold Sup.May at m ⊢
  rw [h3 0 (by omega), h3 1 (by omega), h3 2 (by omega), h3 3 (by omega), h3 4 (by omega), h3 5 (by omega), h3 6 (by omega), h3 7 (by omega), h3 8 (by omega), h1] at m
  obtain ⟨a, b, c, d, e, f, g, i, j, k, l⟩ := m
  exact ⟨a, b, c, d, e, f, g, i, j, k, fun q hq => by rw [← h4 q (by omega)]; exact l q hq⟩
theorem Sup.Eq.num {s t : Sup} (h : s.Eq t) (i : Nat) : s.num i = t.num i := by
  obtain ⟨h1, h2, h3, h4⟩ := h
  unfold Sup.num
  by_cases a : i < 9
  · rw [if_pos a, if_pos a, h3 i a]
  · rw [if_neg a, if_neg a, h2, h1]
    by_cases b : i = 9
    · rw [if_pos b, if_pos b]
    · rw [if_neg b, if_neg b]
      by_cases c : i = 10
      · rw [if_pos c, if_pos c]
      · rw [if_neg c, if_neg c]
        by_cases d : i < 11 + 2 * t.k
        · rw [if_pos d, if_pos d, h4 (i - 11) (by omega)]
        · rw [if_neg d, if_neg d]
theorem Sup.Eq.beh {s t : Sup} (h : s.Eq t) (j : Nat) : s.beh j = t.beh j := by unfold Sup.beh; rw [h.num]
theorem Sup.beh_byte (s : Sup) (j : Nat) : 0 ≤ s.beh j ∧ s.beh j < 256 := byt_byte _ _
/-- A superblock's bytes. -/
def Sup.img (s : Sup) : Nat → Int := sealedF 496 s.beh
theorem sealedF_byte (n : Nat) (f : Nat → Int) (hf : ∀ j, j < n → 0 ≤ f j ∧ f j < 256) (j : Nat) (hj : j < 16 + n) : 0 ≤ sealedF n f j ∧ sealedF n f j < 256 := by
  unfold sealedF
  by_cases h : j < 16
  · rw [if_pos h]; exact sealF_byte n f j
  · rw [if_neg h]; exact hf _ (by omega)
theorem Sup.img_byte (s : Sup) (j : Nat) (hj : j < 512) : 0 ≤ s.img j ∧ s.img j < 256 := sealedF_byte 496 s.beh (fun j _ => s.beh_byte j) j hj
theorem Sup.Eq.img {s t : Sup} (h : s.Eq t) (j : Nat) : s.img j = t.img j := by
  unfold Sup.img
  rw [show s.beh = t.beh from funext h.beh]
theorem Sup.May.num {s : Sup} (m : s.May) (i : Nat) : 0 ≤ s.num i ∧ s.num i < 256 ^ 4 := by
  obtain ⟨a, b, c, d, e, f, g, h, i', j, k⟩ := m
  unfold InR mOp at *
  have k' : ∀ j, j < 2 * s.k → 0 ≤ s.h j ∧ s.h j ≤ 1073741824 := k
  have e4 : (256 : Int) ^ 4 = 4294967296 := by decide
  rw [e4]
  unfold Sup.num
  by_cases q : i < 9
  · rw [if_pos q]
    match i, q with
    | 0, _ | 1, _ | 2, _ | 3, _ | 4, _ | 5, _ | 6, _ | 7, _ | 8, _ => omega
    | n + 9, h => omega
  · rw [if_neg q]
    by_cases q1 : i = 9
    · rw [if_pos q1]; unfold fetN; split <;> omega
    · rw [if_neg q1]
      by_cases q2 : i = 10
      · rw [if_pos q2]; omega
      · rw [if_neg q2]
        by_cases q3 : i < 11 + 2 * s.k
        · rw [if_pos q3]; have := k' (i - 11) (by omega); omega
        · rw [if_neg q3]; omega
/-- The i-th number of bytes. -/
def rdN (F : Nat → Int) (i : Nat) : Int := ps (fun j => F (4 * i + j)) 4
theorem rdN_congr {F G : Nat → Int} (i : Nat) (h : ∀ j, j < 4 → F (4 * i + j) = G (4 * i + j)) : rdN F i = rdN G i := ps_congr _ _ 4 h
theorem rdN_bound (F : Nat → Int) (i : Nat) (h : ∀ j, j < 4 → 0 ≤ F (4 * i + j) ∧ F (4 * i + j) < 256) : 0 ≤ rdN F i ∧ rdN F i < 4294967296 := by
  have := ps_bound (fun j => F (4 * i + j)) 4 h
  rwa [show (256 : Int) ^ 4 = 4294967296 by decide] at this
theorem Sup.May.rd {s : Sup} (m : s.May) (i : Nat) : rdN s.beh i = s.num i := by
  have h := m.num i
  rw [← ps_byt_eq (s.num i) 4 h.1 h.2]
  unfold rdN
  refine ps_congr _ _ 4 fun j hj => ?_
  show byt (s.num ((4 * i + j) / 4)) ((4 * i + j) % 4) = _
  rw [show (4 * i + j) / 4 = i by omega, show (4 * i + j) % 4 = j by omega]
/-- What bytes say. -/
def supOf (F : Nat → Int) : Sup := ⟨rdN F, decide (rdN F 9 = 1), (rdN F 10).toNat, fun j => rdN F (11 + j)⟩
/-- Whether bytes are those of a superblock, be it one that may be or not. -/
def SupOk (F : Nat → Int) : Prop := rdN F 9 ≤ 1 ∧ rdN F 10 ≤ 32 ∧ ∀ i, i < 124 → 11 + 2 * (rdN F 10).toNat ≤ i → rdN F i = 0
noncomputable instance (F : Nat → Int) : Decidable (SupOk F) := Classical.propDecidable _
theorem Sup.May.back {s : Sup} (m : s.May) : SupOk s.beh ∧ s.Eq (supOf s.beh) := by
  have k32 : s.k ≤ 32 := m.2.1
  have e9 : rdN s.beh 9 = fetN s.f := by rw [m.rd 9]; unfold Sup.num; rw [if_neg (by omega), if_pos rfl]
  have e10 : rdN s.beh 10 = s.k := by rw [m.rd 10]; unfold Sup.num; rw [if_neg (by omega), if_neg (by omega), if_pos rfl]
  refine ⟨⟨?_, ?_, fun i hi hk => ?_⟩, ?_, ?_, fun i hi => ?_, fun j hj => ?_⟩
  · rw [e9]; unfold fetN; split <;> omega
  · rw [e10]; omega
  · rw [e10] at hk
    rw [m.rd i]
    unfold Sup.num
    rw [if_neg (by omega), if_neg (by omega), if_neg (by omega), if_neg (by omega)]
  · show s.k = (rdN s.beh 10).toNat
    rw [e10]; omega
  · show s.f = decide (rdN s.beh 9 = 1)
    rw [e9]
    unfold fetN
    cases s.f <;> rfl
  · show s.x i = rdN s.beh i
    rw [m.rd i]; unfold Sup.num; rw [if_pos hi]
  · show s.h j = rdN s.beh (11 + j)
    rw [m.rd (11 + j)]
    unfold Sup.num
    rw [if_neg (by omega), if_neg (by omega), if_neg (by omega), if_pos (by omega), show 11 + j - 11 = j by omega]
/-- Bytes of four each are those of their number. -/
theorem byt_rdN (F : Nat → Int) (hF : ∀ j, j < 496 → 0 ≤ F j ∧ F j < 256) (j : Nat) (hj : j < 496) : byt (rdN F (j / 4)) (j % 4) = F j := by
  unfold rdN
  rw [byt_ps (fun i => F (4 * (j / 4) + i)) 4 (j % 4) (fun i hi => hF _ (by omega)) (by omega)]
  show F (4 * (j / 4) + j % 4) = F j
  rw [show 4 * (j / 4) + j % 4 = j by omega]
theorem SupOk.back {F : Nat → Int} (h : SupOk F) (hF : ∀ j, j < 496 → 0 ≤ F j ∧ F j < 256) (j : Nat) (hj : j < 496) : (supOf F).beh j = F j := by
  obtain ⟨h9, h10, hz⟩ := h
  rw [← byt_rdN F hF j hj]
  unfold Sup.beh
  congr 1
  have b9 := rdN_bound F 9 (fun j hj => hF _ (by omega))
  have b10 := rdN_bound F 10 (fun j hj => hF _ (by omega))
  show (if j / 4 < 9 then rdN F (j / 4) else if j / 4 = 9 then fetN (decide (rdN F 9 = 1)) else if j / 4 = 10 then (((rdN F 10).toNat : Nat) : Int) else if j / 4 < 11 + 2 * (rdN F 10).toNat then rdN F (11 + (j / 4 - 11)) else 0) = _
  by_cases a : j / 4 < 9
  · rw [if_pos a]
  · rw [if_neg a]
    by_cases b : j / 4 = 9
    · rw [if_pos b, b]
      unfold fetN
      by_cases e : rdN F 9 = 1
      · rw [decide_eq_true e, if_pos rfl, e]
      · rw [decide_eq_false e, if_neg (by simp)]; omega
    · rw [if_neg b]
      by_cases c : j / 4 = 10
      · rw [if_pos c, c]; omega
      · rw [if_neg c]
        by_cases d : j / 4 < 11 + 2 * (rdN F 10).toNat
        · rw [if_pos d, show 11 + (j / 4 - 11) = j / 4 by omega]
        · rw [if_neg d, hz (j / 4) (by omega) (by omega)]
/-- What stands behind the seal. -/
def behO (F : Nat → Int) (j : Nat) : Int := F (16 + j)
/-- Bytes that Read takes. -/
def Whole (F : Nat → Int) : Prop := opens 512 F = true ∧ SupOk (behO F) ∧ (supOf (behO F)).May
noncomputable instance (F : Nat → Int) : Decidable (Whole F) := Classical.propDecidable _
/-- What Read answers of 512 bytes. -/
noncomputable def rdE (F : Nat → Int) : Int := if opens 512 F = true then (if SupOk (behO F) ∧ (supOf (behO F)).May then 0 else 4) else 12
theorem rdE_whole (F : Nat → Int) : rdE F = 0 ↔ Whole F := by
  unfold rdE Whole
  by_cases a : opens 512 F = true
  · rw [if_pos a]
    by_cases b : SupOk (behO F) ∧ (supOf (behO F)).May
    · rw [if_pos b]; exact ⟨fun _ => ⟨a, b⟩, fun _ => rfl⟩
    · rw [if_neg b]; exact ⟨fun h => absurd h (by decide), fun h => absurd h.2 b⟩
  · rw [if_neg a]; exact ⟨fun h => absurd h (by decide), fun h => absurd h.1 a⟩
theorem behO_img (s : Sup) : behO s.img = s.beh := by
  funext j
  unfold behO Sup.img sealedF
  rw [if_neg (by omega), show 16 + j - 16 = j by omega]
theorem Sup.May.whole {s : Sup} (m : s.May) : Whole s.img := by
  refine ⟨opens_sealed 496 s.beh, ?_, ?_⟩
  · rw [behO_img]; exact m.back.1
  · rw [behO_img]; exact m.back.2.may m
theorem Sup.May.read {s : Sup} (m : s.May) : s.Eq (supOf (behO s.img)) := by rw [behO_img]; exact m.back.2
theorem Whole.back {F : Nat → Int} (h : Whole F) (hF : ∀ j, j < 512 → 0 ≤ F j ∧ F j < 256) (j : Nat) (hj : j < 512) : (supOf (behO F)).img j = F j := by
  have e : ∀ i, i < 496 → (supOf (behO F)).beh i = behO F i := fun i hi => h.2.1.back (fun q hq => hF _ (by omega)) i hi
  unfold Sup.img sealedF
  by_cases q : j < 16
  · rw [if_pos q, sealF_congr 496 _ (behO F) e]
    have := (eqN_iff 16 _ _).1 h.1 j q
    exact this
  · rw [if_neg q, e (j - 16) (by omega)]
    show F (16 + (j - 16)) = F j
    rw [show 16 + (j - 16) = j by omega]
/-- Bytes that are the same are read the same. -/
theorem opens_congr {F G : Nat → Int} (h : ∀ j, j < 512 → F j = G j) : opens 512 F = opens 512 G := by
  have : ∀ A B : Nat → Int, (∀ j, j < 512 → A j = B j) → opens 512 A = true → opens 512 B = true := fun A B h k => by
    unfold opens at k ⊢
    rw [eqN_iff] at k ⊢
    intro i hi
    rw [← h i (by omega), ← k i hi]
    exact congrFun (sealF_congr 496 _ _ (fun j hj => (h (16 + j) (by omega)).symm)) i
  rw [Bool.eq_iff_iff]
  exact ⟨this F G h, this G F (fun j hj => (h j hj).symm)⟩
theorem rdN_behO {F G : Nat → Int} (h : ∀ j, j < 512 → F j = G j) (i : Nat) (hi : i < 124) : rdN (behO F) i = rdN (behO G) i := rdN_congr i fun j hj => h _ (by omega)
theorem Whole.congr {F G : Nat → Int} (h : ∀ j, j < 512 → F j = G j) (w : Whole F) : Whole G ∧ (supOf (behO F)).Eq (supOf (behO G)) := by
  obtain ⟨w1, ⟨w2, w3, w4⟩, w5⟩ := w
  have r := rdN_behO h
  have k32 : (rdN (behO F) 10).toNat ≤ 32 := by omega
  have E : (supOf (behO F)).Eq (supOf (behO G)) := ⟨by show (rdN (behO F) 10).toNat = (rdN (behO G) 10).toNat; rw [r 10 (by omega)], by show decide (rdN (behO F) 9 = 1) = decide (rdN (behO G) 9 = 1); rw [r 9 (by omega)], fun i hi => r i (by omega), fun j hj => by
    have hj' : j < 2 * (rdN (behO F) 10).toNat := hj
    exact r (11 + j) (by omega)⟩
  refine ⟨⟨by rw [← opens_congr h]; exact w1, ⟨by rw [← r 9 (by omega)]; exact w2, by rw [← r 10 (by omega)]; exact w3, fun i hi hk => ?_⟩, E.may w5⟩, E⟩
  rw [← r 10 (by omega)] at hk
  rw [← r i hi]
  exact w4 i hi hk
end Go.Proofs.Ytfapmogjmjlokaa
