/-
  Walks, not a claim by itself: the cursor's lay. By the verifier.
-/
import Derived.Test.YtlcnhmlcmedonaaRec
import Derived.Deep.RegionHeld3
namespace Go.Proofs.Ytlcnhmlcmedonaa
open Go.RowKit

/-- A number without its lowest bytes. -/
def up8 (x : Int) (i : Nat) : Int := x / 256 ^ i
/-- The bytes of a number, the lowest first. -/
def byt (x : Int) (i : Nat) : Int := up8 x i % 256
theorem shr_up8 (x : Int) (k : Nat) (h : k < 8) : Op.shift .shr .u64 x .i64 (8 * (k : Int)) = pure (.int .u64 (up8 x k)) := by
  rw [shift_shr .u64 .i64 x _ (by omega) (by simp [IntKind.bits]; omega)]
  unfold up8
  rw [show (8 * (k : Int)).toNat = 8 * k by omega, Int.pow_mul]
  rfl
theorem wrap_byt (x : Int) (k : Nat) : IntKind.u8.wrap (up8 x k) = byt x k := by rw [IntKind.wrap_u8]; rfl
theorem wrap_8 (k : Nat) (h : k < 8) : IntKind.i64.wrap (8 * (k : Int)) = 8 * (k : Int) := by rw [IntKind.wrap_i64]; omega
theorem byt_eq (x : Int) (k : Nat) : x / 2 ^ (8 * k) % 256 = byt x k := by
  unfold byt up8
  rw [Int.pow_mul]
  rfl
/-- What holds at the head of the loop. -/
def layRel (w : World) (b N off L n : Nat) (f g : Nat → Int) (i : Value) (wr : World) : Prop := ∃ k : Nat, k ≤ n ∧ i = .int .i64 k ∧ Row wr b N (lay f off k g) ∧ wr.cell? ⟨w.heap.size, 0, none⟩ = some (.slice (some ⟨b, off, none⟩) L L) ∧ wr.cell? ⟨w.heap.size + 1, 0, none⟩ = some (.slice none 0 0) ∧ wr.frozen? ⟨w.heap.size + 1, 0, none⟩ = false ∧ w.heap.size + 1 < wr.heap.size ∧ But b w wr
theorem lay_rel1 (w wr : World) (b N off L n k m : Nat) (f : Nat → Int) (x v : Int) (hb : b < w.heap.size) (hk : k < n) (hm : m = off + k) (hv : v = x / 2 ^ (8 * k) % 256) (hR : Row wr b N (lay f off k (byt x))) (c0 : wr.cell? ⟨w.heap.size, 0, none⟩ = some (.slice (some ⟨b, off, none⟩) L L)) (c1 : wr.cell? ⟨w.heap.size + 1, 0, none⟩ = some (.slice none 0 0)) (f1 : wr.frozen? ⟨w.heap.size + 1, 0, none⟩ = false) (hz : w.heap.size + 1 < wr.heap.size) (hB : But b w wr) :
    layRel w b N off L n f (byt x) (.int .i64 ((k : Int) + 1)) (wr.setCell ⟨b, m, none⟩ (.int .u8 v)).drew := by
  subst hm hv
  have g1 : ∀ o, (wr.setCell ⟨b, off + k, none⟩ (.int .u8 (x / 2 ^ (8 * k) % 256))).cell? ⟨w.heap.size, o, none⟩ = wr.cell? ⟨w.heap.size, o, none⟩ := fun o => World.cell?_setCell_far _ _ _ _ (by show b ≠ w.heap.size; omega)
  have g2 : ∀ o, (wr.setCell ⟨b, off + k, none⟩ (.int .u8 (x / 2 ^ (8 * k) % 256))).cell? ⟨w.heap.size + 1, o, none⟩ = wr.cell? ⟨w.heap.size + 1, o, none⟩ := fun o => World.cell?_setCell_far _ _ _ _ (by show b ≠ w.heap.size + 1; omega)
  exact ⟨k + 1, by omega, by go_num, (hR.set _ (byt_eq x k)).drew, (g1 0).trans c0, (g2 0).trans c1, (World.frozen?_setCell _ _ _ _).trans f1, by show _ < (World.setCell _ _ _).heap.size; simp [World.setCell]; exact hz, (hB.put (.inl rfl) _).drew⟩

set_option maxRecDepth 100000 in
set_option maxHeartbeats 1000000 in
theorem lay_mid (b N off L n : Nat) (f : Nat → Int) (x : Int) (w : World) (hr : Row w b N f) (hn : n ≤ 8) (hN : off + L = N) (ho : n < L) :
    Calls Try.prog 46 #[.agg #[.slice (some ⟨b, off, none⟩) L L], .int .u64 x, .int .i64 n] w fun e w' => e = .returned (.agg #[.slice (some ⟨b, off + n, none⟩) (L - n) (L - n)]) ∧ Row w' b N (lay f off n (byt x)) ∧ But b w w' := by
  have hb := hr.2.2
  have ST : Hid (layRel w b N off L n f (byt x) (.int .i64 0) ((w.alloc (.cells #[.slice (some ⟨b, off, none⟩) L L] 58)).alloc (.cells #[.slice none 0 0] 58))) := by
    refine ⟨0, by omega, rfl, ?_, ?_, ?_, ?_, ?_, ?_⟩
    · rw [lay_zero]; exact (hr.alloc _).alloc _
    · simp [go_sem]
    · simp [go_sem]
    · simp [go_sem]
    · simp
    · exact ((But.refl _ _).alloc _).alloc _
  have NN : Hid (off + L = N) := hN
  clear hr hN
  have nl : (n : Int) ≤ L := by omega
  have nl' : ¬ L = n := by omega
  go_enter Try.func46, Try.ntmps46
  go_wp2_with fail
  go_loopw [9] (fun i wr => layRel w b N off L n f (byt x) i wr) (fun i _ => n - (intOf i).toNat)
  case atStart => exact ST.out
  case round =>
    obtain ⟨k, hk, rfl, hR, c0, c1, f1, hz, hB⟩ := hrel
    clear ST
    have BE : Hid (But b w wr) := hB
    clear hB
    have RR : Hid (Row wr b N (lay f off k (byt x))) := hR
    by_cases hlt : k < n
    · have gk := hR.1 (off + k) (by have := NN.out; omega)
      have fk := hR.2.1 (off + k)
      clear hR
      have w8 := wrap_8 k (by omega)
      have i0 : (k : Int) < L := by omega
      have ne : ¬ b = w.heap.size := by omega
      go_wp2_with fail
      go_region_held3 (fun w' => w'.cell? ⟨w.heap.size, 0, none⟩ = some (.slice (some ⟨b, off, none⟩) L L)) (go_keep) (fail)
      go_wp2_with fail
      exact ⟨lay_rel1 w wr b N off L n k _ f x _ hb hlt rfl rfl RR.out c0 c1 f1 hz BE.out, by simp [intOf]; omega⟩
    · obtain rfl : k = n := by omega
      clear hR
      go_wp2_with fail
      have ne : ¬ w.heap.size + 1 = b := by omega
      refine bodyPost_ret (v := .agg #[.slice (some ⟨b, off + k, none⟩) (L - k) (L - k)]) (by simp [results, Try.results46, go_sem, c1]) rfl ⟨rfl, ?_, ?_⟩
      · exact RR.out.but (But.set _ 0 _) (by omega)
      · exact BE.out.put (.inr (Nat.le_succ _)) _
set_option maxRecDepth 100000 in
set_option maxHeartbeats 1000000 in
theorem lay_end (b N off L n : Nat) (f : Nat → Int) (x : Int) (w : World) (hr : Row w b N f) (hn : n ≤ 8) (hN : off + L = N) (ho : n = L) :
    Calls Try.prog 46 #[.agg #[.slice (some ⟨b, off, none⟩) L L], .int .u64 x, .int .i64 n] w fun e w' => e = .returned (.agg #[.slice (some ⟨b, off, none⟩) 0 0]) ∧ Row w' b N (lay f off n (byt x)) ∧ But b w w' := by
  have hb := hr.2.2
  subst ho
  have ST : Hid (layRel w b N off n n f (byt x) (.int .i64 0) ((w.alloc (.cells #[.slice (some ⟨b, off, none⟩) n n] 58)).alloc (.cells #[.slice none 0 0] 58))) := by
    refine ⟨0, by omega, rfl, ?_, ?_, ?_, ?_, ?_, ?_⟩
    · rw [lay_zero]; exact (hr.alloc _).alloc _
    · simp [go_sem]
    · simp [go_sem]
    · simp [go_sem]
    · simp
    · exact ((But.refl _ _).alloc _).alloc _
  have NN : Hid (off + n = N) := hN
  clear hr hN
  go_enter Try.func46, Try.ntmps46
  go_wp2_with fail
  go_loopw [9] (fun i wr => layRel w b N off n n f (byt x) i wr) (fun i _ => n - (intOf i).toNat)
  case atStart => exact ST.out
  case round =>
    obtain ⟨k, hk, rfl, hR, c0, c1, f1, hz, hB⟩ := hrel
    clear ST
    have BE : Hid (But b w wr) := hB
    clear hB
    have RR : Hid (Row wr b N (lay f off k (byt x))) := hR
    by_cases hlt : k < n
    · have gk := hR.1 (off + k) (by have := NN.out; omega)
      have fk := hR.2.1 (off + k)
      clear hR
      have w8 := wrap_8 k (by omega)
      have i0 : (k : Int) < n := by omega
      have ne : ¬ b = w.heap.size := by omega
      go_wp2_with fail
      go_region_held3 (fun w' => w'.cell? ⟨w.heap.size, 0, none⟩ = some (.slice (some ⟨b, off, none⟩) n n)) (go_keep) (fail)
      go_wp2_with fail
      exact ⟨lay_rel1 w wr b N off n n k _ f x _ hb hlt rfl rfl RR.out c0 c1 f1 hz BE.out, by simp [intOf]; omega⟩
    · obtain rfl : k = n := by omega
      clear hR
      go_wp2_with fail
      have ne : ¬ w.heap.size + 1 = b := by omega
      refine bodyPost_ret (v := .agg #[.slice (some ⟨b, off, none⟩) 0 0]) (by simp [results, Try.results46, go_sem, c1]) rfl ⟨rfl, ?_, ?_⟩
      · exact RR.out.but (But.set _ 0 _) (by omega)
      · exact BE.out.put (.inr (Nat.le_succ _)) _
end Go.Proofs.Ytlcnhmlcmedonaa
