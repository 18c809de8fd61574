/-
  Plain notions, not a claim by itself: blocks of the grid, their numbers and their bytes. By the verifier.
-/
import Derived.Test.YtblphlcnbnklmaaGreatDoorMPlain
import Derived.Test.YtblphlcnbnklmaaGreatDoorCOpn
namespace Go.Proofs.YtblphlcnbnklmaaGreatDoor
open Go.RowKit
/-- A block: three numbers, how many refs there are, their numbers, how many bytes the body has, these. -/
structure Blk where
  x : Nat → Int
  k : Nat
  h : Nat → Int
  n : Nat
  F : Nat → Int
/-- The numbers behind the seal. -/
def Blk.num (s : Blk) (i : Nat) : Int := if i < 3 then s.x i else if i = 3 then (s.k : Int) else if i = 4 then (s.n : Int) else if i < 5 + 2 * s.k then s.h (i - 5) else 0
/-- The bytes behind the seal. -/
def Blk.beh (s : Blk) (j : Nat) : Int := if j < 148 then byt (s.num (j / 4)) (j % 4) else if j - 148 < s.n then s.F (j - 148) else 0
/-- A number within bounds. -/
def InR (n a b : Int) : Prop := a ≤ n ∧ n ≤ b
instance (n a b : Int) : Decidable (InR n a b) := by unfold InR; infer_instance
/-- A ref may be. -/
def RefOk (a s : Int) : Prop := InR a 1 512 ∧ InR s 0 1073741824
instance (a s : Int) : Decidable (RefOk a s) := by unfold RefOk; infer_instance
/-- All of k refs may be. -/
def RefsOk (k : Nat) (h : Nat → Int) : Prop := ∀ i, i < k → RefOk (h (2 * i)) (h (2 * i + 1))
instance (k : Nat) (h : Nat → Int) : Decidable (RefsOk k h) := by unfold RefsOk; infer_instance
/-- Which blocks may be. -/
def Blk.May (s : Blk) : Prop := InR (s.x 0) 1 15 ∧ RefOk (s.x 1) (s.x 2) ∧ s.k ≤ 16 ∧ s.n ≤ 860 ∧ RefsOk s.k s.h
instance (s : Blk) : Decidable s.May := by unfold Blk.May; infer_instance
/-- The body is bytes. -/
def Blk.Byt (s : Blk) : Prop := ∀ j, j < s.n → 0 ≤ s.F j ∧ s.F j < 256
/-- Two blocks are the same. -/
def Blk.Eq (s t : Blk) : Prop := s.k = t.k ∧ s.n = t.n ∧ (∀ i, i < 3 → s.x i = t.x i) ∧ (∀ j, j < 2 * s.k → s.h j = t.h j) ∧ ∀ j, j < s.n → s.F j = t.F j
theorem Blk.Eq.refl (s : Blk) : s.Eq s := ⟨rfl, rfl, fun _ _ => rfl, fun _ _ => rfl, fun _ _ => rfl⟩
theorem Blk.Eq.symm {s t : Blk} (h : s.Eq t) : t.Eq s := ⟨h.1.symm, h.2.1.symm, fun i hi => (h.2.2.1 i hi).symm, fun j hj => (h.2.2.2.1 j (by rw [h.1]; exact hj)).symm, fun j hj => (h.2.2.2.2 j (by rw [h.2.1]; exact hj)).symm⟩
theorem RefsOk.congr {k : Nat} {h g : Nat → Int} (m : RefsOk k h) (e : ∀ j, j < 2 * k → h j = g j) : RefsOk k g := fun i hi => by
  rw [← e (2 * i) (by omega), ← e (2 * i + 1) (by omega)]; exact m i hi
theorem Blk.Eq.may {s t : Blk} (h : s.Eq t) (m : s.May) : t.May := by
  obtain ⟨h1, h2, h3, h4, h5⟩ := h
  obtain ⟨a, b, c, d, e⟩ := m
  rw [h3 0 (by omega)] at a
  rw [h3 1 (by omega), h3 2 (by omega)] at b
  have e' := e.congr h4
  rw [h1] at c e'
  rw [h2] at d
  exact ⟨a, b, c, d, e'⟩
theorem Blk.Eq.num {s t : Blk} (h : s.Eq t) (i : Nat) : s.num i = t.num i := by
  obtain ⟨h1, h2, h3, h4, h5⟩ := h
  unfold Blk.num
  by_cases a : i < 3
  · rw [if_pos a, if_pos a, h3 i a]
  · rw [if_neg a, if_neg a, h2, h1]
    by_cases b : i = 3
    · rw [if_pos b, if_pos b]
    · rw [if_neg b, if_neg b]
      by_cases c : i = 4
      · rw [if_pos c, if_pos c]
      · rw [if_neg c, if_neg c]
        by_cases d : i < 5 + 2 * t.k
        · rw [if_pos d, if_pos d, h4 (i - 5) (by omega)]
        · rw [if_neg d, if_neg d]
theorem Blk.Eq.beh {s t : Blk} (h : s.Eq t) (j : Nat) : s.beh j = t.beh j := by
  unfold Blk.beh
  rw [h.num, h.2.1]
  by_cases a : j < 148
  · rw [if_pos a, if_pos a]
  · rw [if_neg a, if_neg a]
    by_cases b : j - 148 < t.n
    · rw [if_pos b, if_pos b, h.2.2.2.2 (j - 148) (by rw [h.2.1]; exact b)]
    · rw [if_neg b, if_neg b]
theorem Blk.beh_byte {s : Blk} (hb : s.Byt) (j : Nat) : 0 ≤ s.beh j ∧ s.beh j < 256 := by
  unfold Blk.beh
  by_cases a : j < 148
  · rw [if_pos a]; exact byt_byte _ _
  · rw [if_neg a]
    by_cases b : j - 148 < s.n
    · rw [if_pos b]; exact hb _ b
    · rw [if_neg b]; omega
/-- A block's bytes. -/
def Blk.img (s : Blk) : Nat → Int := sealedF 1008 s.beh
theorem sealed_byte (n : Nat) (f : Nat → Int) (hf : ∀ j, j < n → 0 ≤ f j ∧ f j < 256) (j : Nat) (hj : j < 16 + n) : 0 ≤ sealedF n f j ∧ sealedF n f j < 256 := by
  unfold sealedF
  by_cases h : j < 16
  · rw [if_pos h]; exact sealF_byte n f j
  · rw [if_neg h]; exact hf _ (by omega)
theorem Blk.img_byte {s : Blk} (hb : s.Byt) (j : Nat) (hj : j < 1024) : 0 ≤ s.img j ∧ s.img j < 256 := sealed_byte 1008 s.beh (fun j _ => s.beh_byte hb j) j hj
theorem Blk.Eq.img {s t : Blk} (h : s.Eq t) (j : Nat) : s.img j = t.img j := by
  unfold Blk.img
  rw [show s.beh = t.beh from funext h.beh]
theorem Blk.May.num {s : Blk} (m : s.May) (i : Nat) : 0 ≤ s.num i ∧ s.num i < 256 ^ 4 := by
  obtain ⟨a, b, c, d, e⟩ := m
  unfold RefOk InR at *
  have e4 : (256 : Int) ^ 4 = 4294967296 := by decide
  rw [e4]
  unfold Blk.num
  by_cases q : i < 3
  · rw [if_pos q]
    match i, q with
    | 0, _ | 1, _ | 2, _ => omega
    | n + 3, h => omega
  · rw [if_neg q]
    by_cases q1 : i = 3
    · rw [if_pos q1]; omega
    · rw [if_neg q1]
      by_cases q2 : i = 4
      · rw [if_pos q2]; omega
      · rw [if_neg q2]
        by_cases q3 : i < 5 + 2 * s.k
        · rw [if_pos q3]
          obtain ⟨⟨e1, e2⟩, e3, e5⟩ := e ((i - 5) / 2) (by omega)
          by_cases q4 : (i - 5) % 2 = 0
          · rw [show 2 * ((i - 5) / 2) = i - 5 by omega] at e1 e2; omega
          · rw [show 2 * ((i - 5) / 2) + 1 = i - 5 by omega] at e3 e5; omega
        · rw [if_neg q3]; omega
/-- The i-th number of bytes. -/
def rdN (F : Nat → Int) (i : Nat) : Int := ps (fun j => F (4 * i + j)) 4
theorem rdN_congr {F G : Nat → Int} (i : Nat) (h : ∀ j, j < 4 → F (4 * i + j) = G (4 * i + j)) : rdN F i = rdN G i := ps_congr _ _ 4 h
theorem rdN_bound (F : Nat → Int) (i : Nat) (h : ∀ j, j < 4 → 0 ≤ F (4 * i + j) ∧ F (4 * i + j) < 256) : 0 ≤ rdN F i ∧ rdN F i < 4294967296 := by
  have := ps_bound (fun j => F (4 * i + j)) 4 h
  rwa [show (256 : Int) ^ 4 = 4294967296 by decide] at this
theorem Blk.May.rd {s : Blk} (m : s.May) (i : Nat) (hi : i < 37) : rdN s.beh i = s.num i := by
  have h := m.num i
  rw [← ps_byt_eq (s.num i) 4 h.1 h.2]
  unfold rdN
  refine ps_congr _ _ 4 fun j hj => ?_
  unfold Blk.beh
  rw [if_pos (by omega), show (4 * i + j) / 4 = i by omega, show (4 * i + j) % 4 = j by omega]
/-- What bytes say. -/
def blkOf (F : Nat → Int) : Blk := ⟨rdN F, (rdN F 3).toNat, fun j => rdN F (5 + j), (rdN F 4).toNat, fun j => F (148 + j)⟩
/-- The places behind the last ref are noughts. -/
def NoRefs (F : Nat → Int) : Prop := ∀ i, i < 16 → (rdN F 3).toNat ≤ i → rdN F (5 + 2 * i) = 0 ∧ rdN F (5 + 2 * i + 1) = 0
/-- What stands behind the body is noughts. -/
def NoRest (F : Nat → Int) : Prop := ∀ j, j < 860 → (rdN F 4).toNat ≤ j → F (148 + j) = 0
instance (F : Nat → Int) : Decidable (NoRefs F) := by unfold NoRefs; infer_instance
instance (F : Nat → Int) : Decidable (NoRest F) := by unfold NoRest; infer_instance
/-- How many there are may be. -/
def Sized (F : Nat → Int) : Prop := rdN F 3 ≤ 16 ∧ rdN F 4 ≤ 860
instance (F : Nat → Int) : Decidable (Sized F) := by unfold Sized; infer_instance
/-- Whether bytes are those of a block, be it one that may be or not. -/
def BlkOk (F : Nat → Int) : Prop := Sized F ∧ NoRefs F ∧ NoRest F
instance (F : Nat → Int) : Decidable (BlkOk F) := by unfold BlkOk; infer_instance
theorem Blk.May.back {s : Blk} (m : s.May) : BlkOk s.beh ∧ s.Eq (blkOf s.beh) := by
  have k16 : s.k ≤ 16 := m.2.2.1
  have n860 : s.n ≤ 860 := m.2.2.2.1
  have e3 : rdN s.beh 3 = s.k := by rw [m.rd 3 (by omega)]; rfl
  have e4 : rdN s.beh 4 = s.n := by rw [m.rd 4 (by omega)]; rfl
  have z : ∀ i, i < 37 → 5 + 2 * s.k ≤ i → rdN s.beh i = 0 := fun i hi hk => by
    rw [m.rd i hi]
    unfold Blk.num
    rw [if_neg (by omega), if_neg (by omega), if_neg (by omega), if_neg (by omega)]
  refine ⟨⟨⟨by rw [e3]; omega, by rw [e4]; omega⟩, fun i hi hk => ?_, fun j hj hk => ?_⟩, ?_, ?_, fun i hi => ?_, fun j hj => ?_, fun j hj => ?_⟩
  · rw [e3] at hk
    exact ⟨z _ (by omega) (by omega), z _ (by omega) (by omega)⟩
  · rw [e4] at hk
    unfold Blk.beh
    rw [if_neg (by omega), if_neg (by omega)]
  · show s.k = (rdN s.beh 3).toNat
    rw [e3]; omega
  · show s.n = (rdN s.beh 4).toNat
    rw [e4]; omega
  · show s.x i = rdN s.beh i
    rw [m.rd i (by omega)]; unfold Blk.num; rw [if_pos hi]
  · show s.h j = rdN s.beh (5 + j)
    rw [m.rd (5 + j) (by omega)]
    unfold Blk.num
    rw [if_neg (by omega), if_neg (by omega), if_neg (by omega), if_pos (by omega), show 5 + j - 5 = j by omega]
  · show s.F j = s.beh (148 + j)
    unfold Blk.beh
    rw [if_neg (by omega), if_pos (by omega), show 148 + j - 148 = j by omega]
/-- Bytes of four each are those of their number. -/
theorem byt_rdN (F : Nat → Int) (hF : ∀ j, j < 148 → 0 ≤ F j ∧ F j < 256) (j : Nat) (hj : j < 148) : byt (rdN F (j / 4)) (j % 4) = F j := by
  unfold rdN
  rw [byt_ps (fun i => F (4 * (j / 4) + i)) 4 (j % 4) (fun i hi => hF _ (by omega)) (by omega)]
  show F (4 * (j / 4) + j % 4) = F j
  rw [show 4 * (j / 4) + j % 4 = j by omega]
theorem BlkOk.num {F : Nat → Int} (h : BlkOk F) (hF : ∀ j, j < 148 → 0 ≤ F j ∧ F j < 256) (i : Nat) (hi : i < 37) : (blkOf F).num i = rdN F i := by
  obtain ⟨⟨h3, h4⟩, hz, _⟩ := h
  have b3 := rdN_bound F 3 (fun j hj => hF _ (by omega))
  have b4 := rdN_bound F 4 (fun j hj => hF _ (by omega))
  show (if i < 3 then rdN F i else if i = 3 then (((rdN F 3).toNat : Nat) : Int) else if i = 4 then (((rdN F 4).toNat : Nat) : Int) else if i < 5 + 2 * (rdN F 3).toNat then rdN F (5 + (i - 5)) else 0) = _
  by_cases a : i < 3
  · rw [if_pos a]
  · rw [if_neg a]
    by_cases b : i = 3
    · rw [if_pos b, b]; omega
    · rw [if_neg b]
      by_cases c : i = 4
      · rw [if_pos c, c]; omega
      · rw [if_neg c]
        by_cases d : i < 5 + 2 * (rdN F 3).toNat
        · rw [if_pos d, show 5 + (i - 5) = i by omega]
        · rw [if_neg d]
          obtain ⟨q1, q2⟩ := hz ((i - 5) / 2) (by omega) (by omega)
          by_cases g : (i - 5) % 2 = 0
          · rw [show 5 + 2 * ((i - 5) / 2) = i by omega] at q1; exact q1.symm
          · rw [show 5 + 2 * ((i - 5) / 2) + 1 = i by omega] at q2; exact q2.symm
theorem BlkOk.back {F : Nat → Int} (h : BlkOk F) (hF : ∀ j, j < 1008 → 0 ≤ F j ∧ F j < 256) (j : Nat) (hj : j < 1008) : (blkOf F).beh j = F j := by
  unfold Blk.beh
  by_cases a : j < 148
  · rw [if_pos a, h.num (fun j hj => hF j (by omega)) (j / 4) (by omega)]
    exact byt_rdN F (fun j hj => hF j (by omega)) j a
  · rw [if_neg a]
    by_cases b : j - 148 < (blkOf F).n
    · rw [if_pos b]
      show F (148 + (j - 148)) = F j
      rw [show 148 + (j - 148) = j by omega]
    · rw [if_neg b]
      have b' : ¬ j - 148 < (rdN F 4).toNat := b
      have := h.2.2 (j - 148) (by omega) (by omega)
      rw [show 148 + (j - 148) = j by omega] at this
      exact this.symm
/-- What stands behind the seal. -/
def behO (F : Nat → Int) (j : Nat) : Int := F (16 + j)
/-- Bytes that Read takes. -/
def Whole (F : Nat → Int) : Prop := opens 1024 F = true ∧ BlkOk (behO F) ∧ (blkOf (behO F)).May
theorem behO_img (s : Blk) : behO s.img = s.beh := by
  funext j
  unfold behO Blk.img sealedF
  rw [if_neg (by omega), show 16 + j - 16 = j by omega]
theorem Blk.May.whole {s : Blk} (m : s.May) : Whole s.img := by
  refine ⟨opens_sealed 1008 s.beh, ?_, ?_⟩
  · rw [behO_img]; exact m.back.1
  · rw [behO_img]; exact m.back.2.may m
theorem Blk.May.read {s : Blk} (m : s.May) : s.Eq (blkOf (behO s.img)) := by rw [behO_img]; exact m.back.2
theorem Whole.back {F : Nat → Int} (h : Whole F) (hF : ∀ j, j < 1024 → 0 ≤ F j ∧ F j < 256) (j : Nat) (hj : j < 1024) : (blkOf (behO F)).img j = F j := by
  have e : ∀ i, i < 1008 → (blkOf (behO F)).beh i = behO F i := fun i hi => h.2.1.back (fun q hq => hF _ (by omega)) i hi
  unfold Blk.img sealedF
  by_cases q : j < 16
  · rw [if_pos q, sealF_congr 1008 _ (behO F) e]
    have := (eqN_iff 16 _ _).1 h.1 j q
    exact this
  · rw [if_neg q, e (j - 16) (by omega)]
    show F (16 + (j - 16)) = F j
    rw [show 16 + (j - 16) = j by omega]
/-- The answer of Read. -/
def rdE (F : Nat → Int) : Int := if opens 1024 F = true then (if BlkOk (behO F) ∧ (blkOf (behO F)).May then 0 else 4) else 12
theorem opens_congr {F G : Nat → Int} (h : ∀ j, j < 1024 → F j = G j) : opens 1024 F = opens 1024 G := by
  have : ∀ A B : Nat → Int, (∀ j, j < 1024 → A j = B j) → opens 1024 A = true → opens 1024 B = true := fun A B h k => by
    unfold opens at k ⊢
    rw [eqN_iff] at k ⊢
    intro i hi
    rw [← h i (by omega), ← k i hi]
    exact congrFun (sealF_congr 1008 _ _ (fun j hj => (h (16 + j) (by omega)).symm)) i
  rw [Bool.eq_iff_iff]
  exact ⟨this F G h, this G F (fun j hj => (h j hj).symm)⟩
theorem rdN_behO {F G : Nat → Int} (h : ∀ j, j < 1024 → F j = G j) (i : Nat) (hi : i < 37) : rdN (behO F) i = rdN (behO G) i := rdN_congr i fun j hj => h _ (by omega)
end Go.Proofs.YtblphlcnbnklmaaGreatDoor
