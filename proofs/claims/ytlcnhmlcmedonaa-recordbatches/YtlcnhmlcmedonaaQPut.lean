/-
  Walks, not a claim by itself: the reference's put and wide. By the verifier.
-/
import Derived.Test.YtlcnhmlcmedonaaBApp
import Derived.Test.YtlcnhmlcmedonaaLayW
namespace Go.Proofs.Ytlcnhmlcmedonaa
open Go.RowKit
theorem one_arg (w : World) (x : Int) (hx : 0 ≤ x ∧ x < 256) : Arg (w.alloc (.cells #[.int .u8 x] 5)) (some ⟨w.heap.size, 0, none⟩) 1 (fun _ => x) :=
  Arg.of ((IRow.new w 5 .u8 1 (fun _ => x)).lies (fun _ _ => hx))
def putRel (w : World) (base m sz : Nat) (F : Nat → Int) (x : Int) (v i : Value) (wr : World) : Prop := ∃ k : Nat, k ≤ sz ∧ i = .int .i64 k ∧ Own wr base v (m + k) (cat F m (byt x)) ∧ Below base w wr
/-- Bytes behind bytes. -/
def PutPost (w : World) (base N : Nat) (F : Nat → Int) (e : Ending) (w' : World) : Prop := ∃ v, e = .returned v ∧ Own w' base v N F ∧ Below base w w'
set_option maxRecDepth 100000 in
set_option maxHeartbeats 1000000 in
theorem qput_any (x : Int) (sz m base : Nat) (F : Nat → Int) (v : Value) (w : World) (hsz : sz ≤ 8) (hm : m ≤ 200) (ho : Own w base v m F) (hb : base ≤ w.heap.size) :
    Calls Try.prog 33 #[v, .int .u64 x, .int .i64 sz] w (PutPost w base (m + sz) (cat F m (byt x))) := by
  have ST : Hid (putRel w base m sz F x v (.int .i64 0) w) := ⟨0, by omega, rfl, ho.congr (fun j hj => by unfold cat; rw [if_pos (by omega)]), Below.refl _ _⟩
  have hsz' : (sz : Int) ≤ 8 := by omega
  clear ho
  go_enter Try.func33, Try.ntmps33
  go_wp2_with fail
  go_loopw [0, 7] (fun v i wr => putRel w base m sz F x v i wr) (fun _ i _ => sz - (intOf i).toNat)
  case atStart => exact ST.out
  case round =>
    obtain ⟨k, hk, rfl, ho, hB⟩ := hrel
    clear ST
    by_cases hlt : k < sz
    · have i0 : (k : Int) < sz := by omega
      have i1 : (0 : Int) ≤ 8 * (k : Int) := by omega
      have i2 : 8 * (k : Int) < 64 := by omega
      have i3 : (8 * (k : Int)).toNat = 8 * k := by omega
      obtain ⟨v', W', hr, hO, hB'⟩ := app_arg 31 (wr.alloc (.cells #[.int .u8 (x / 2 ^ (8 * k) % 256)] 5)) base (m + k) 1 1 _ (some ⟨wr.heap.size, 0, none⟩) (cat F m (byt x)) (fun _ => x / 2 ^ (8 * k) % 256) (ho.below ((Below.refl _ _).alloc (Nat.le_refl _) _)) (one_arg wr _ (by omega)) (by omega) (by have := hB.size; simp; omega)
      have R : Hid (putRel w base m sz F x v' (.int .i64 ((k : Int) + 1)) W') := ⟨k + 1, by omega, by go_num, hO.congr (fun j hj => by
        by_cases e : j < m + k
        · unfold cat; rw [if_pos e]
        · rw [show j = m + k by omega]
          unfold cat
          rw [if_neg (by omega), if_neg (by omega), show m + k - m = k by omega, ← byt_eq]), (hB.alloc (by have := hB.size; omega) _).trans hB'⟩
      clear hO hB' ho hB
      go_wp2_with (at_builtin; refine wpList_append_go rfl (.tmp 13) (.tmp 19) 31 31 rfl _ _ rfl rfl hr ?_)
      exact ⟨R.out, by simp [intOf]; omega⟩
    · obtain rfl : k = sz := by omega
      go_wp2_with fail
      exact bodyPost_ret (by simp [results, Try.results33, go_sem]) rfl ⟨_, rfl, ho, hB⟩
set_option maxRecDepth 100000 in
set_option maxHeartbeats 4000000 in
theorem rbytes_any (h l : Int) (w : World) (h1 : Word h) (h2 : Word l) :
    Calls Try.prog 47 #[U h l] w fun e w' => e = .returned (.agg (cl .u8 16 (wide h l)).toArray) ∧ Below w.heap.size w w' := by
  rw [show (.agg (cl .u8 16 (wide h l)).toArray : Value) = BytesOf h l from (cells16_eq h l h1 h2).symm]
  obtain ⟨a1, a2⟩ := h1
  obtain ⟨b1, b2⟩ := h2
  go_enter Try.func47, Try.ntmps47
  go_wp2
  refine wp_loop_rounds 9 ?_
  iterate 9 (rw [rounds_succ]; go_wp2)
  exact bodyPost_ret (v := BytesOf h l) (by simp [results, Try.results47, go_sem]) rfl ⟨rfl, (((Below.refl _ _).alloc (Nat.le_refl _) _).alloc (by simp) _).alloc (by simp; omega) _⟩
theorem wide_byte (h l : Int) (j : Nat) : 0 ≤ wide h l j ∧ wide h l j < 256 := by
  unfold wide byt
  split <;> omega
theorem wide_app {h l : Int} {m base : Nat} {F : Nat → Int} {v : Value} {w w1 w2 w3 : World} (hm : m ≤ 200) (ho : Own w base v m F) (hb : base ≤ w.heap.size) (hE : Below w.heap.size w w1) (hB2 : Below w1.heap.size w1 w2) (hz2 : w2.heap.size = w1.heap.size + 1) (hR3 : IRow w3 w1.heap.size .u8 16 (wide h l)) (hB3 : But w1.heap.size w2 w3) :
    ∃ v' W', (Builtin.append_ #[31, 31] 31 #[v, .slice (some ⟨w1.heap.size, 0, none⟩) 16 16]).run Try.prog w3 = .ok v' W' ∧ Own W' base v' (m + 16) (cat F m (wide h l)) ∧ Below base w W' := by
  have K3 : Below w1.heap.size w1 w3 := hB2.trans (hB3.below (Nat.le_refl _) (by omega))
  have E3 : Below w.heap.size w w3 := hE.trans (K3.mono hE.size)
  obtain ⟨v', W', hr, hO, hB'⟩ := app_arg 31 w3 base m 16 16 v (some ⟨w1.heap.size, 0, none⟩) F (wide h l) (ho.below E3) (Arg.of (hR3.lies (fun j _ => wide_byte h l j))) (by omega) (by have := E3.size; omega)
  exact ⟨v', W', hr, hO, (E3.mono hb).trans hB'⟩
set_option maxRecDepth 100000 in
set_option maxHeartbeats 1000000 in
theorem qwide_any (h l : Int) (m base : Nat) (F : Nat → Int) (v : Value) (w : World) (h1 : Word h) (h2 : Word l) (hm : m ≤ 200) (ho : Own w base v m F) (hb : base ≤ w.heap.size) :
    Calls Try.prog 32 #[v, U h l] w (PutPost w base (m + 16) (cat F m (wide h l))) := by
  have HO : Hid (Own w base v m F) := ho
  clear ho
  go_enter Try.func32, Try.ntmps32
  go_wp2_with fail
  refine (rbytes_any h l _ h1 h2).mono ?_
  rintro e w1 ⟨rfl, hB1⟩
  have E1 : Hid (Below w.heap.size w w1) := ((Below.refl _ _).alloc (Nat.le_refl _) _).trans (hB1.mono (by simp))
  clear hB1
  go_wp2_with (first
    | (refine wpList_alloc_row rfl 74 rfl .u8 16 w1.heap.size rfl (by kernel_rfl) ?_; intro w2 hR2 hB2 hz2)
    | (refine wpList_store_row rfl 74 (.tmp 5) _ rfl w1.heap.size .u8 16 (wide h l) (fun _ => 0) rfl rfl hR2 (by kernel_rfl) ?_; intro w3 hR3 hB3 hz3)
    | (at_builtin; obtain ⟨v', W', hr, hO, hB'⟩ := wide_app hm HO.out hb E1.out hB2 hz2 hR3 hB3; refine wpList_append_go rfl (.tmp 8) (.tmp 9) 31 31 rfl _ _ rfl rfl hr ?_))
  exact bodyPost_ret (by simp [results, Try.results32, go_sem]) rfl ⟨_, rfl, hO, hB'⟩
end Go.Proofs.Ytlcnhmlcmedonaa
