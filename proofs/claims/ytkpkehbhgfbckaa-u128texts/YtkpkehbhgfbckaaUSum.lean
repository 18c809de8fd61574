/-
  Walks, not a claim by itself: all numbers of a list added, by the program and by the reference. By the verifier.
-/
import Derived.Test.YtkpkehbhgfbckaaRAdd
import Derived.Test.YtkpkehbhgfbckaaBase
namespace Go.Proofs.Ytkpkehbhgfbckaa
open Go.RowKit

/-- The first n numbers added. -/
def tot (F : Nat → Int) : Nat → Int
  | 0 => 0
  | n + 1 => tot F n + V (F (n * 2)) (F (n * 2 + 1))
/-- n numbers lie in block b. -/
def NLies (w : World) (b off n : Nat) (F : Nat → Int) : Prop := (∀ j, j < n * 2 → w.cell? ⟨b, off + j, none⟩ = some (.int .u64 (F j))) ∧ (∀ j, j < n * 2 → Word (F j)) ∧ b < w.heap.size
def NArg (w : World) (a : Option Addr) (n : Nat) (F : Nat → Int) : Prop := n = 0 ∨ ∃ b off, a = some ⟨b, off, none⟩ ∧ NLies w b off n F
theorem NLies.below {w u : World} {b off n : Nat} {F : Nat → Int} (h : NLies w b off n F) (hB : Below w.heap.size w u) : NLies u b off n F :=
  ⟨fun j hj => (hB.cell (p := ⟨b, off + j, none⟩) h.2.2).trans (h.1 j hj), h.2.1, Nat.lt_of_lt_of_le h.2.2 hB.size⟩
theorem NArg.below {w u : World} {a : Option Addr} {n : Nat} {F : Nat → Int} (h : NArg w a n F) (hB : Below w.heap.size w u) : NArg u a n F := by
  rcases h with h | ⟨b, off, rfl, h⟩
  · exact .inl h
  · exact .inr ⟨b, off, rfl, h.below hB⟩
theorem V_nonneg {h l : Int} (h1 : Word h) (h2 : Word l) : 0 ≤ V h l := by
  obtain ⟨_, _⟩ := h1; obtain ⟨_, _⟩ := h2; unfold V; omega
theorem tot_nonneg {F : Nat → Int} : ∀ (n : Nat), (∀ j, j < n * 2 → Word (F j)) → 0 ≤ tot F n
  | 0, _ => Int.le_refl 0
  | n + 1, h => by
    have := tot_nonneg n (fun j hj => h j (by omega))
    have := V_nonneg (h (n * 2) (by omega)) (h (n * 2 + 1) (by omega))
    show 0 ≤ tot F n + V (F (n * 2)) (F (n * 2 + 1))
    omega
theorem tot_mono {F : Nat → Int} (k : Nat) : ∀ (n : Nat), k ≤ n → (∀ j, j < n * 2 → Word (F j)) → tot F k ≤ tot F n
  | 0, hk, _ => by rw [show k = 0 from by omega]; exact Int.le_refl _
  | n + 1, hk, h => by
    by_cases e : k = n + 1
    · subst e; exact Int.le_refl _
    · have := tot_mono k n (by omega) (fun j hj => h j (by omega))
      have := V_nonneg (h (n * 2) (by omega)) (h (n * 2 + 1) (by omega))
      rw [show tot F (n + 1) = tot F n + V (F (n * 2)) (F (n * 2 + 1)) from rfl]
      omega
/-- The words of a number. -/
def hiW (t : Int) : Int := t / 18446744073709551616
def loW (t : Int) : Int := t % 18446744073709551616
theorem hi_word {t : Int} (h0 : 0 ≤ t) (h1 : t < 340282366920938463463374607431768211456) : Word (hiW t) := ⟨by unfold hiW; omega, by unfold hiW; omega⟩
theorem lo_word (t : Int) : Word (loW t) := ⟨by unfold loW; omega, by unfold loW; omega⟩
theorem V_words (t : Int) : V (hiW t) (loW t) = t := by unfold V hiW loW; omega
theorem words_uniq {x y t : Int} (hx : Word x) (hy : Word y) (h : V x y = t) : x = hiW t ∧ y = loW t := by
  obtain ⟨_, _⟩ := hx; obtain ⟨_, _⟩ := hy
  subst h
  unfold V hiW loW
  omega
/-- What a sum hands back. -/
def sumV (t : Int) : Value := if t < 340282366920938463463374607431768211456 then .tuple #[U (hiW t) (loW t), .bool false] else .tuple #[U 0 0, .bool true]
theorem sumV_ok {t : Int} (h : t < 340282366920938463463374607431768211456) : sumV t = .tuple #[U (hiW t) (loW t), .bool false] := if_pos h
theorem sumV_over {t : Int} (h : ¬ t < 340282366920938463463374607431768211456) : sumV t = .tuple #[U 0 0, .bool true] := if_neg h
theorem add_sum (ah al bh bl t : Int) (w : World) (h1 : Word ah) (h2 : Word al) (h3 : Word bh) (h4 : Word bl) (ht : V ah al + V bh bl = t) :
    Calls Try.prog 9 #[U ah al, U bh bl] w fun e w' => e = .returned (sumV t) ∧ Below w.heap.size w w' := by
  by_cases g : t < 340282366920938463463374607431768211456
  · rw [sumV_ok g]
    refine (add_ok ah al bh bl w h1 h2 h3 h4 (by omega)).mono ?_
    rintro e w' ⟨x, y, rfl, hx, hy, hv, hb⟩
    obtain ⟨rfl, rfl⟩ := words_uniq hx hy (hv.out.trans ht)
    exact ⟨rfl, hb⟩
  · rw [sumV_over g]
    exact add_over ah al bh bl w h1 h2 h3 h4 (by omega)
theorem radd_sum (ah al bh bl t : Int) (w : World) (h1 : Word ah) (h2 : Word al) (h3 : Word bh) (h4 : Word bl) (ht : V ah al + V bh bl = t) :
    Calls Try.prog 10 #[U ah al, U bh bl] w fun e w' => e = .returned (sumV t) ∧ Below w.heap.size w w' := by
  refine (radd_any ah al bh bl w h1 h2 h3 h4).mono ?_
  rintro e w' ⟨⟨g, x, y, rfl, hx, hy, hv⟩ | ⟨g, rfl⟩, hb⟩
  · rw [sumV_ok (by omega)]
    obtain ⟨rfl, rfl⟩ := words_uniq hx hy (hv.trans ht)
    exact ⟨rfl, hb⟩
  · rw [sumV_over (by omega)]
    exact ⟨rfl, hb⟩
/-- What holds at the head of Sum's loop. -/
def SumRel (w : World) (F : Nat → Int) (n : Nat) (i : Value) (wr : World) : Prop := ∃ k : Nat, k ≤ n ∧ i = .int .i64 k ∧ tot F k < 340282366920938463463374607431768211456 ∧
  AtW wr (w.heap.size + 1) (hiW (tot F k)) (loW (tot F k)) ∧ AtW wr w.heap.size 0 0 ∧ Below w.heap.size w wr
theorem sum_start (w : World) (F : Nat → Int) (n : Nat) : SumRel w F n (.int .i64 0) ((w.alloc (.cells #[.int .u64 0, .int .u64 0] 24)).alloc (.cells #[.int .u64 0, .int .u64 0] 24)) := by
  refine ⟨0, Nat.zero_le _, rfl, by show (0 : Int) < 340282366920938463463374607431768211456; decide, ?_, (AtW.new w 0 0 _).alloc _, ((Below.refl _ _).alloc (Nat.le_refl _) _).alloc (by simp) _⟩
  have := AtW.new (w.alloc (.cells #[.int .u64 0, .int .u64 0] 24)) 0 0 24
  rw [World.size_alloc] at this
  exact this

theorem sum_step {w w5 : World} {F : Nat → Int} {n k : Nat} (o : Obj) (hk : k < n) (g : tot F (k + 1) < 340282366920938463463374607431768211456) (hA : AtW w5 (w.heap.size + 1) (hiW (tot F k)) (loW (tot F k))) (hR : AtW w5 w.heap.size 0 0) (hB : Below w.heap.size w w5) :
    SumRel w F n (.int .i64 ((k : Int) + 1)) (((w5.setCell ⟨w.heap.size + 1, 0, none⟩ (.int .u64 (hiW (tot F (k + 1))))).setCell ⟨w.heap.size + 1, 1, none⟩ (.int .u64 (loW (tot F (k + 1))))).alloc o) :=
  ⟨k + 1, by omega, by go_num, g, (hA.set _ _).alloc _, ((hR.other _ 0 _ (by omega)).other _ 1 _ (by omega)).alloc _, ((hB.setCell (p := ⟨w.heap.size + 1, 0, none⟩) (by simp) _).setCell (p := ⟨w.heap.size + 1, 1, none⟩) (by simp) _).alloc (by have := hB.size; simp [World.setCell]; omega) _⟩
theorem sum_below2 {w w5 : World} {B : Nat} {p q : Value} (hB : Below w.heap.size w w5) (hb : w.heap.size ≤ B) : Below w.heap.size w ((w5.setCell ⟨B, 0, none⟩ p).setCell ⟨B, 1, none⟩ q) :=
  (hB.setCell (p := ⟨B, 0, none⟩) hb _).setCell (p := ⟨B, 1, none⟩) hb _

set_option maxRecDepth 100000 in
set_option maxHeartbeats 2000000 in
theorem usum_any (a : Option Addr) (n C : Nat) (F : Nat → Int) (w : World) (h : NArg w a n F) (hn : n ≤ 1000) :
    Calls Try.prog 18 #[.slice a n C] w fun e w' => e = .returned (sumV (tot F n)) ∧ Below w.heap.size w w' := by
  have HA : Hid (NArg w a n F) := h
  have hN : (n : Int) ≤ 1000 := by omega
  clear h
  go_enter Try.func18, Try.ntmps18
  go_wp2_with fail
  go_loopw [11] (fun i wr => SumRel w F n i wr) (fun i _ => n - (intOf i).toNat)
  case atStart => exact sum_start w F n
  case round =>
    obtain ⟨k, hk, rfl, ht, hA, hR, hB⟩ := hrel
    by_cases hlt : k < n
    · rcases HA.out with h0 | ⟨b, off, rfl, hl⟩
      · omega
      have c1 := (hB.cell (p := ⟨b, off + k * 2, none⟩) hl.2.2).trans (hl.1 (k * 2) (by omega))
      have c2 := (hB.cell (p := ⟨b, off + (k * 2 + 1), none⟩) hl.2.2).trans (hl.1 (k * 2 + 1) (by omega))
      rw [← Nat.add_assoc] at c2
      have hb1 : b < wr.heap.size := Nat.lt_of_lt_of_le hl.2.2 hB.size
      have W1 : Hid (Word (F (k * 2)) ∧ Word (F (k * 2 + 1))) := ⟨hl.2.1 _ (by omega), hl.2.1 _ (by omega)⟩
      have TT : Hid (tot F k < 340282366920938463463374607431768211456 ∧ 0 ≤ tot F k ∧ tot F (k + 1) ≤ tot F n) := ⟨ht, tot_nonneg k (fun j hj => hl.2.1 j (by omega)), tot_mono (k + 1) n (by omega) hl.2.1⟩
      have T1 : Hid (V (hiW (tot F k)) (loW (tot F k)) + V (F (k * 2)) (F (k * 2 + 1)) = tot F (k + 1)) := by unfold Hid; rw [V_words]; rfl
      have i0 : (k : Int) < n := by omega
      have i1 : (0 : Int) ≤ (k : Int) := by omega
      have BE : Hid (Below w.heap.size w wr) := hB
      have AE : Hid (AtW wr (w.heap.size + 1) (hiW (tot F k)) (loW (tot F k))) := hA
      have RE : Hid (AtW wr w.heap.size 0 0) := hR
      obtain ⟨a0, a1, a2, a3, a4⟩ := hA
      clear hl hB hR ht HA
      go_wp2_with fail
      refine (add_sum _ _ _ _ (tot F (k + 1)) _ (hi_word TT.out.2.1 TT.out.1) (lo_word _) W1.out.1 W1.out.2 T1.out).mono ?_
      rintro e w5 ⟨rfl, hB5⟩
      have A5 := ((AtW.alloc AE.out _).below hB5)
      have R5 := ((AtW.alloc RE.out _).below hB5)
      have E5 : Hid (Below w.heap.size w w5) := (BE.out.alloc BE.out.size _).trans (hB5.mono (by have := BE.out.size; simp; omega))
      clear hB5 AE RE BE a0 a1 a2 a3 a4 c1 c2 hb1
      by_cases g : tot F (k + 1) < 340282366920938463463374607431768211456
      · rw [sumV_ok g]
        have A6 : Hid (AtW w5 (w.heap.size + 1) (hiW (tot F k)) (loW (tot F k))) := A5
        have R6 : Hid (AtW w5 w.heap.size 0 0) := R5
        obtain ⟨a0, a1, a2, a3, a4⟩ := A5
        clear R5
        go_wp2_with fail
        exact ⟨sum_step _ hlt g A6.out R6.out E5.out, by simp [intOf]; omega⟩
      · rw [sumV_over g]
        obtain ⟨r0, r1, r2, r3, r4⟩ := R5
        clear A5
        go_wp2_with fail
        refine bodyPost_ret (v := .tuple #[U 0 0, .bool true]) (by simp [results, Try.results18, go_sem, r0, r1, r4]) rfl ⟨?_, ?_⟩
        · rw [sumV_over (by have := TT.out.2.2; omega)]
        · exact (sum_below2 E5.out (Nat.le_refl _)).alloc (by have := E5.out.size; simp [World.setCell]; omega) _
    · obtain rfl : k = n := by omega
      have BE : Hid (Below w.heap.size w wr) := hB
      obtain ⟨a0, a1, a2, a3, a4⟩ := hA
      obtain ⟨r0, r1, r2, r3, r4⟩ := hR
      go_wp2_with fail
      refine bodyPost_ret (v := .tuple #[U (hiW (tot F k)) (loW (tot F k)), .bool false]) (by simp [results, Try.results18, go_sem, r0, r1]) rfl ⟨?_, ?_⟩
      · rw [sumV_ok ht]
      · exact sum_below2 BE.out (Nat.le_refl _)
end Go.Proofs.Ytkpkehbhgfbckaa
