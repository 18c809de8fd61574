/-
  Walks, not a claim by itself: the reference's Text. By the verifier.
-/
import Derived.Test.YtkpkehbhgfbckaaUTen
import Derived.Test.YtkpkehbhgfbckaaText
import Derived.Test.YtkpkehbhgfbckaaTxtVal
namespace Go.Proofs.Ytkpkehbhgfbckaa
open Go.RowKit

theorem cutdig (d : Int) (h0 : 0 ≤ d) (h1 : d < 10) (w : World) : (Instr.sliceAt 9 (.string ⟨#[48, 49, 50, 51, 52, 53, 54, 55, 56, 57]⟩) (some (.int .i64 d)) (some (.int .i64 (d + 1))) none).run Try.prog w = .ok (.string (strOfNums [48 + d])) w := by
  have h : d = 0 ∨ d = 1 ∨ d = 2 ∨ d = 3 ∨ d = 4 ∨ d = 5 ∨ d = 6 ∨ d = 7 ∨ d = 8 ∨ d = 9 := by omega
  rcases h with rfl | rfl | rfl | rfl | rfl | rfl | rfl | rfl | rfl | rfl <;> rfl
theorem str_cons (a : Int) (xs : List Int) : strOfNums [a] ++ strOfNums xs = strOfNums (a :: xs) := by
  apply ByteArray.ext
  rw [ByteArray.data_append]
  simp [strOfNums]
def strLen : Value → Nat
  | .string b => b.size
  | _ => 0
/-- What holds at the head of Text's loop. -/
def RTxt (w : World) (n : Nat) (s : Value) (wr : World) : Prop := ∃ (x y : Int) (acc : List Int), s = .string (strOfNums acc) ∧ Word x ∧ Word y ∧ AtW wr w.heap.size x y ∧ txt n = txt (V x y).toNat ++ acc ∧ Below w.heap.size w wr
theorem txt_pos (n : Nat) : 0 < (txt n).length := by
  obtain ⟨x, xs, h, _⟩ := txt_head n
  rw [h]; simp
theorem rtxt_last {n m : Nat} {acc : List Int} (h : txt n = txt m ++ acc) (hm : m < 10) : txt n = (48 + ((m % 10 : Nat) : Int)) :: acc := by
  rw [h, txt_small m hm, Nat.mod_eq_of_lt hm]; rfl
theorem rtxt_more {n m : Nat} {acc : List Int} (h : txt n = txt m ++ acc) (hm : 10 ≤ m) : txt n = txt (m / 10) ++ ((48 + ((m % 10 : Nat) : Int)) :: acc) := by
  rw [h, txt_great m hm]; simp
theorem txt39 (h l : Int) (h1 : Word h) (h2 : Word l) : (txt (V h l).toNat).length ≤ 39 := by
  refine txt_len 38 _ ?_
  obtain ⟨_, _⟩ := h1; obtain ⟨_, _⟩ := h2
  have e : (10 : Nat) ^ (38 + 1) = 1000000000000000000000000000000000000000 := by decide
  rw [e]
  unfold V
  omega
theorem rtxt_step {w w2 : World} {n : Nat} {x y p q d : Int} {acc : List Int} (o : Obj) (hT : txt n = txt (V x y).toNat ++ acc) (hV : 0 ≤ V x y) (hg : ¬ V x y / 10 = 0) (hd : d = V x y % 10) (hpq : V p q = V x y / 10) (hp : Word p) (hq : Word q) (hA : AtW w2 w.heap.size x y) (hB : Below w.heap.size w w2) (hz : w.heap.size ≤ w2.heap.size) :
    RTxt w n (.string (strOfNums [48 + d] ++ strOfNums acc)) (((w2.setCell ⟨w.heap.size, 0, none⟩ (.int .u64 p)).setCell ⟨w.heap.size, 1, none⟩ (.int .u64 q)).alloc o) ∧
      (txt n).length - strLen (.string (strOfNums [48 + d] ++ strOfNums acc)) < (txt n).length - strLen (.string (strOfNums acc)) := by
  have hl : acc.length < (txt n).length := by
    have := txt_pos (V x y).toNat
    rw [hT, List.length_append]; omega
  rw [str_cons]
  refine ⟨⟨p, q, _, rfl, hp, hq, (hA.set p q).alloc _, ?_, (sum_below2 hB (Nat.le_refl _)).alloc (by simp [World.setCell]; omega) _⟩, ?_⟩
  · rw [hpq, rtxt_more hT (by omega)]
    rw [show (V x y / 10).toNat = (V x y).toNat / 10 by omega, show (((V x y).toNat % 10 : Nat) : Int) = d by omega]
  · show (txt n).length - (strOfNums ((48 + d) :: acc)).size < (txt n).length - (strOfNums acc).size
    rw [strOfNums_size, strOfNums_size, List.length_cons]
    omega
set_option maxRecDepth 100000 in
set_option maxHeartbeats 2000000 in
theorem rtext_any (h l : Int) (w : World) (h1 : Word h) (h2 : Word l) :
    Calls Try.prog 35 #[U h l] w fun e w' => e = .returned (.string (strOfNums (txt (V h l).toNat))) ∧ Below w.heap.size w w' := by
  go_enter Try.func35, Try.ntmps35
  go_wp2_with fail
  go_loopw [3] (fun s wr => RTxt w (V h l).toNat s wr) (fun s _ => (txt (V h l).toNat).length - strLen s)
  case atStart => exact ⟨h, l, [], rfl, h1, h2, AtW.new w h l _, by simp, (Below.refl _ _).alloc (Nat.le_refl _) _⟩
  case round =>
    obtain ⟨x, y, acc, rfl, hx, hy, hA, ht, hB⟩ := hrel
    have HT : Hid (txt (V h l).toNat = txt (V x y).toNat ++ acc) := ht
    have BE : Hid (Below w.heap.size w wr) := hB
    have AE : Hid (AtW wr w.heap.size x y) := hA
    obtain ⟨a0, a1, a2, a3, a4⟩ := hA
    have HV : Hid (0 ≤ V x y ∧ V x y < 340282366920938463463374607431768211456) := by
      obtain ⟨_, _⟩ := hx; obtain ⟨_, _⟩ := hy; unfold Hid V; omega
    clear ht hB
    go_wp2_with fail
    refine (rten_any x y _ hx hy).mono ?_
    rintro e w2 ⟨rfl, hB2⟩
    have A2 : Hid (AtW w2 w.heap.size x y) := AE.out.below hB2
    have E2 : Hid (Below w.heap.size w w2) := BE.out.trans (hB2.mono BE.out.size)
    clear a0 a1 a2 a3 a4 AE BE hB2
    obtain ⟨d, hd⟩ : ∃ d, d = V x y % 10 := ⟨_, rfl⟩
    have d0 : 0 ≤ d := by omega
    have d1 : d < 10 := by omega
    have hsl := cutdig d d0 d1
    have HD : Hid (d = V x y % 10) := hd
    rw [← hd]
    clear hd
    have HL : Hid (acc.length < (txt (V h l).toNat).length) := by
      have := txt_pos (V x y).toNat
      unfold Hid; rw [HT.out, List.length_append]; omega
    have hcat : ¬ 9223372036854775807 < (strOfNums [48 + d]).size + (strOfNums acc).size := by
      rw [strOfNums_size, strOfNums_size]
      have := HL.out
      have := txt39 h l h1 h2
      simp only [List.length_cons, List.length_nil]
      omega
    by_cases g : V x y / 10 = 0
    · rw [g]
      rw [show hiW 0 = 0 from rfl, show loW 0 = 0 from rfl]
      have HG : Hid (V x y / 10 = 0) := g
      clear g
      go_wp2_with fail
      go_ret
      refine ⟨?_, E2.out.alloc E2.out.size _⟩
      rw [str_cons, rtxt_last HT.out (by have := HG.out; have := HV.out; omega)]
      rw [show (((V x y).toNat % 10 : Nat) : Int) = d by have := HD.out; have := HV.out; omega]
      rfl
    · have HG : Hid (¬ V x y / 10 = 0) := g
      have V1 : Hid (V (hiW (V x y / 10)) (loW (V x y / 10)) = V x y / 10) := V_words _
      have W1 : Hid (Word (hiW (V x y / 10)) ∧ Word (loW (V x y / 10))) := ⟨hi_word (by have := HV.out; omega) (by have := HV.out; omega), lo_word _⟩
      generalize hiW (V x y / 10) = p at *
      generalize loW (V x y / 10) = q at *
      obtain ⟨a0, a1, a2, a3, a4⟩ := id A2.out
      have pq : ¬ p = 0 ∨ (p = 0 ∧ ¬ q = 0) := by
        have hV : V p q ≠ 0 := by rw [V1.out]; exact HG.out
        unfold V at hV
        by_cases e : p = 0
        · exact .inr ⟨e, by omega⟩
        · exact .inl e
      clear g
      rcases pq with pn | ⟨rfl, qn⟩
      · go_wp2_with fail
        exact rtxt_step _ HT.out HV.out.1 HG.out HD.out V1.out W1.out.1 W1.out.2 A2.out E2.out (by omega)
      · go_wp2_with fail
        exact rtxt_step _ HT.out HV.out.1 HG.out HD.out V1.out W1.out.1 W1.out.2 A2.out E2.out (by omega)
end Go.Proofs.Ytkpkehbhgfbckaa
