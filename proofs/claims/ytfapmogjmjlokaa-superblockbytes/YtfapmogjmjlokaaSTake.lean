/-
  Walks, not a claim by itself: superblock's taker. By the verifier.
-/
import Derived.Test.YtfapmogjmjlokaaSLay
namespace Go.Proofs.Ytfapmogjmjlokaa
open Go.RowKit
theorem bits_or_u32_nat (a b : Nat) (ha : a < 4294967296) (hb : b < 4294967296) : bits .or .u32 (a : Int) (b : Int) = ((a ||| b : Nat) : Int) := by
  have hx : a ||| b < 2 ^ 32 := Nat.or_lt_two_pow (by omega) (by omega)
  have h1 : (BitVec.ofInt 32 (a : Int)).toNat = a := by
    rw [BitVec.ofInt_natCast, BitVec.toNat_ofNat]; exact Nat.mod_eq_of_lt (by omega)
  have h2 : (BitVec.ofInt 32 (b : Int)).toNat = b := by
    rw [BitVec.ofInt_natCast, BitVec.toNat_ofNat]; exact Nat.mod_eq_of_lt (by omega)
  show IntKind.u32.wrap ((BitVec.ofInt 32 (a : Int) ||| BitVec.ofInt 32 (b : Int)).toNat : Int) = _
  rw [BitVec.toNat_or, h1, h2, IntKind.wrap_u32]
  omega
theorem or_lo32 (a b : Int) (m : Int) (k : Nat) (hm : m = 2 ^ k) (h0 : 0 ≤ a) (h1 : 0 ≤ b) (h2 : b < m) (h3 : a * m + b < 4294967296) : bits .or .u32 b (a * m) = b + a * m := by
  subst hm
  obtain ⟨a, rfl⟩ := Int.eq_ofNat_of_zero_le h0
  obtain ⟨b, rfl⟩ := Int.eq_ofNat_of_zero_le h1
  have e : ((2 : Int) ^ k) = ((2 ^ k : Nat) : Int) := by simp
  rw [e] at h2 h3 ⊢
  have hb : b < 2 ^ k := by omega
  rw [show (a : Int) * ((2 ^ k : Nat) : Int) = ((a * 2 ^ k : Nat) : Int) from by simp] at h3 ⊢
  rw [bits_or_u32_nat _ _ (by omega) (by omega), Nat.or_comm, or_sum_nat a b k hb]
  simp; omega
theorem ps_4 (f : Nat → Int) (n : Nat) (hn : n ≤ 4) (hf : ∀ j, j < n → 0 ≤ f j ∧ f j < 256) : 0 ≤ ps f n ∧ ps f n < 4294967296 := by
  obtain ⟨a, b⟩ := ps_bound f n hf
  refine ⟨a, Int.lt_of_lt_of_le b ?_⟩
  match n, hn with
  | 0, _ | 1, _ | 2, _ | 3, _ | 4, _ => decide
  | n + 5, h => omega
theorem shl_k32 (f : Nat → Int) (k : Nat) (hk : k < 4) (hf : ∀ j, j < k + 1 → 0 ≤ f j ∧ f j < 256) : f k * 2 ^ (8 * k) % 4294967296 = f k * 256 ^ k := by
  rw [Int.pow_mul]
  show f k * 256 ^ k % 4294967296 = _
  rw [Int.emod_eq_of_lt]
  · exact Int.mul_nonneg (hf k (by omega)).1 (Int.le_of_lt (Int.pow_pos (by decide)))
  · have h1 := (ps_4 f (k + 1) (by omega) hf).2
    have h2 := (ps_4 f k (by omega) (fun j hj => hf j (by omega))).1
    rw [ps_succ] at h1
    omega
theorem or_k32 (f : Nat → Int) (k : Nat) (hk : k < 4) (hf : ∀ j, j < k + 1 → 0 ≤ f j ∧ f j < 256) : bits .or .u32 (ps f k) (f k * 256 ^ k) = ps f (k + 1) := by
  have h1 := (ps_4 f (k + 1) (by omega) hf).2
  obtain ⟨h2, h3⟩ := ps_bound f k (fun j hj => hf j (by omega))
  have e := hf k (by omega)
  rw [ps_succ] at h1 ⊢
  exact or_lo32 (f k) (ps f k) (256 ^ k) (8 * k) (by rw [Int.pow_mul]; rfl) e.1 h2 h3 (by omega)
theorem taker_let (v : Value) (w : World) (a : Option Addr) (n C : Nat) (hv : v = .slice a n C) : Calls Try.prog 59 #[v] w fun e w' => e = .returned (.func (.func 73) #[] #[.pointer (some ⟨w.heap.size, 0, none⟩)]) ∧ w'.cell? ⟨w.heap.size, 0, none⟩ = some v ∧ w'.frozen? ⟨w.heap.size, 0, none⟩ = false ∧ Below w.heap.size w w' ∧ w'.heap.size = w.heap.size + 1 := by
  subst hv
  go_enter Try.func59, Try.ntmps59
  go_wp2_with fail
  go_ret
  exact ⟨rfl, by simp [go_sem], by simp [go_sem], (Below.refl _ _).alloc (Nat.le_refl _) _, by simp⟩
/-- What a taker has still: block r, from o on. -/
structure TakeAt (w : World) (B r N o : Nat) (f : Nat → Int) : Prop where
  cell : ∃ q, w.cell? ⟨B, 0, none⟩ = some (.slice (some ⟨r, q, none⟩) (N - o) (N - o)) ∧ (o < N → q = o)
  fr : w.frozen? ⟨B, 0, none⟩ = false
  lies : Lies w r 0 N f
  bl : B < w.heap.size
  ne : B ≠ r
theorem TakeAt.below {w u : World} {B r N o : Nat} {f : Nat → Int} (h : TakeAt w B r N o f) (hB : Below w.heap.size w u) : TakeAt u B r N o f := by
  obtain ⟨q, c, e⟩ := h.cell
  exact ⟨⟨q, (hB.cell (p := ⟨B, 0, none⟩) h.bl).trans c, e⟩, (hB.frozen (p := ⟨B, 0, none⟩) h.bl).trans h.fr, h.lies.below hB, Nat.lt_of_lt_of_le h.bl hB.size, h.ne⟩
theorem TakeAt.but {w u : World} {B r N o c : Nat} {f : Nat → Int} (h : TakeAt w B r N o f) (hB : But c w u) (h1 : B ≠ c) (h2 : r ≠ c) : TakeAt u B r N o f := by
  obtain ⟨q, c, e⟩ := h.cell
  exact ⟨⟨q, (hB.cell (p := ⟨B, 0, none⟩) h.bl h1).trans c, e⟩, (hB.frozen (p := ⟨B, 0, none⟩) h.bl h1).trans h.fr, h.lies.but hB h2, Nat.lt_of_lt_of_le h.bl hB.size, h.ne⟩
def t1Rel (w : World) (f : Nat → Int) (o : Nat) (acc i : Value) (wr : World) : Prop := ∃ k : Nat, k ≤ 4 ∧ i = .int .i64 k ∧ acc = .int .u32 (ps (fun j => f (o + j)) k) ∧ wr = w
def TakePost (w : World) (B r N o : Nat) (f : Nat → Int) (e : Ending) (w' : World) : Prop := e = .returned (.int .u32 (ps (fun j => f (o + j)) 4)) ∧ TakeAt w' B r N (o + 4) f ∧ But B w w' ∧ w'.heap.size = w.heap.size
theorem t1_end (w : World) (B r N o q m : Nat) (f : Nat → Int) (h : TakeAt w B r N o f) (hq : o + 4 < N → q = o + 4) (hm : m = N - o - 4) :
    TakePost w B r N o f (.returned (.int .u32 (ps (fun j => f (o + j)) 4))) (w.setCell ⟨B, 0, none⟩ (.slice (some ⟨r, q, none⟩) m m)) := by
  have O : But B w (w.setCell ⟨B, 0, none⟩ (.slice (some ⟨r, q, none⟩) m m)) := But.set _ _ _
  obtain ⟨q0, c, _⟩ := h.cell
  refine ⟨rfl, ⟨⟨q, ?_, hq⟩, by simpa using h.fr, h.lies.but O (fun e => h.ne e.symm), by simp [World.setCell]; exact h.bl, h.ne⟩, O, by simp [World.setCell]⟩
  rw [World.cell?_setCell_same' _ _ _ (by rw [c]; rfl), hm, show N - (o + 4) = N - o - 4 by omega]
set_option maxRecDepth 100000 in
set_option maxHeartbeats 1000000 in
theorem take1_any (w : World) (B r N o : Nat) (f : Nat → Int) (h : TakeAt w B r N o f) (ho : o + 4 ≤ N) (hN : N ≤ 1000000) :
    Calls Try.prog 73 #[.pointer (some ⟨B, 0, none⟩)] w (TakePost w B r N o f) := by
  have HP : Hid (TakeAt w B r N o f) := h
  obtain ⟨q0, c, hq0⟩ := h.cell
  obtain rfl : q0 = o := hq0 (by omega)
  have fb := h.fr
  obtain ⟨n, hn⟩ : ∃ n, N - q0 = n := ⟨_, rfl⟩
  rw [hn] at c
  clear h hq0
  go_enter Try.func73, Try.ntmps73
  go_wp2_with fail
  go_loopw [2, 4] (fun acc i wr => t1Rel w f q0 acc i wr) (fun _ i _ => 4 - (RowKit.intOf i).toNat)
  case atStart => exact ⟨0, by omega, rfl, rfl, rfl⟩
  case round =>
    obtain ⟨k, hk, rfl, rfl, rfl⟩ := hrel
    by_cases hlt : k < 4
    · have gk := HP.out.lies.1 (q0 + k) (by omega)
      rw [Nat.zero_add] at gk
      obtain ⟨g0, g1⟩ := HP.out.lies.2.1 (q0 + k) (by omega)
      have w8 := wrap_8 k (by omega)
      have i0 : (k : Int) < 4 := by omega
      have i4 : (0 : Int) ≤ (k : Int) := by omega
      have i5 : (k : Int) < n := by omega
      go_wp2_with fail
      refine ⟨⟨k + 1, by omega, by go_num, ?_, rfl⟩, by simp [RowKit.intOf]; omega⟩
      rw [shl_k32 (fun j => f (q0 + j)) k (by omega) (fun j hj => HP.out.lies.2.1 _ (by omega)), or_k32 (fun j => f (q0 + j)) k (by omega) (fun j hj => HP.out.lies.2.1 _ (by omega))]
    · obtain rfl : k = 4 := by omega
      have i0 : (4 : Int) ≤ n := by omega
      rw [show ((4 : Nat) : Int) = 4 from rfl]
      by_cases e4 : n = 4
      · have PP : Hid (∀ q, TakePost wr B r N q0 f (.returned (.int .u32 (ps (fun j => f (q0 + j)) 4))) (wr.setCell ⟨B, 0, none⟩ (.slice (some ⟨r, q, none⟩) 0 0))) := fun q => t1_end wr B r N q0 q 0 f HP.out (fun g => by omega) (by omega)
        subst e4
        go_wp2_with fail
        go_ret
        exact PP.out _
      · have PP : Hid (TakePost wr B r N q0 f (.returned (.int .u32 (ps (fun j => f (q0 + j)) 4))) (wr.setCell ⟨B, 0, none⟩ (.slice (some ⟨r, q0 + 4, none⟩) (n - 4) (n - 4)))) := t1_end wr B r N q0 (q0 + 4) (n - 4) f HP.out (fun _ => rfl) (by omega)
        go_wp2_with fail
        go_ret
        exact PP.out
end Go.Proofs.Ytfapmogjmjlokaa
