/-
  Walks, not a claim by itself: the reference's put; u128's bytes by the reference. By the verifier.
-/
import Derived.Test.YtfpgkckcifjkcaaDoorNApp
import Derived.Test.YtfpgkckcifjkcaaDoorMU
import Derived.Test.YtfpgkckcifjkcaaDoorMSeal
namespace Go.Proofs.YtfpgkckcifjkcaaDoor
open Go.RowKit
theorem one_byte (w : World) (x : Int) (hx : 0 ≤ x ∧ x < 256) : Arg (w.alloc (.cells #[.int .u8 x] 5)) (some ⟨w.heap.size, 0, none⟩) 1 (fun _ => x) :=
  Arg.of ((IRow.new w 5 .u8 1 (fun _ => x)).lies (fun _ _ => hx))
def putRel (w : World) (base m sz : Nat) (F : Nat → Int) (x : Int) (v i : Value) (wr : World) : Prop := ∃ k : Nat, k ≤ sz ∧ i = .int .i64 k ∧ Own wr base v (m + k) (cat F m (byt x)) ∧ Below base w wr
/-- Bytes behind bytes. -/
def PutPost (w : World) (base N : Nat) (F : Nat → Int) (e : Ending) (w' : World) : Prop := ∃ v, e = .returned v ∧ Own w' base v N F ∧ Below base w w'
set_option maxRecDepth 100000 in
set_option maxHeartbeats 1000000 in
theorem mput_any (x : Int) (sz m base : Nat) (F : Nat → Int) (v : Value) (w : World) (hsz : sz ≤ 8) (hm : m ≤ 200) (ho : Own w base v m F) (hb : base ≤ w.heap.size) :
    Calls Tryd.prog 71 #[v, .int .u64 x, .int .i64 sz] w (PutPost w base (m + sz) (cat F m (byt x))) := by
  have ST : Hid (putRel w base m sz F x v (.int .i64 0) w) := ⟨0, by omega, rfl, ho.congr (fun j hj => by unfold cat; rw [if_pos (by omega)]), Below.refl _ _⟩
  have hsz' : (sz : Int) ≤ 8 := by omega
  clear ho
  go_enter Tryd.func71, Tryd.ntmps71
  go_wp2_with fail
  go_loopw [0, 7] (fun v i wr => putRel w base m sz F x v i wr) (fun _ i _ => sz - (intOf i).toNat)
  case atStart => exact ST.out
  case round =>
    obtain ⟨k, hk, rfl, ho, hB⟩ := hrel
    clear ST
    by_cases hlt : k < sz
    · have i0 : (k : Int) < sz := by omega
      have i1 : (0 : Int) ≤ 8 * (k : Int) := by omega
      have i2 : 8 * (k : Int) < 64 := by omega
      have i3 : (8 * (k : Int)).toNat = 8 * k := by omega
      obtain ⟨v', W', hr, hO, hB'⟩ := app_arg 27 (wr.alloc (.cells #[.int .u8 (x / 2 ^ (8 * k) % 256)] 5)) base (m + k) 1 1 _ (some ⟨wr.heap.size, 0, none⟩) (cat F m (byt x)) (fun _ => x / 2 ^ (8 * k) % 256) (ho.below ((Below.refl _ _).alloc (Nat.le_refl _) _)) (one_byte wr _ (by omega)) (by omega) (by have := hB.size; simp; omega)
      have R : Hid (putRel w base m sz F x v' (.int .i64 ((k : Int) + 1)) W') := ⟨k + 1, by omega, by go_num, hO.congr (fun j hj => by
        by_cases e : j < m + k
        · unfold cat; rw [if_pos e]
        · rw [show j = m + k by omega]
          unfold cat
          rw [if_neg (by omega), if_neg (by omega), show m + k - m = k by omega, ← byt_eq]), (hB.alloc (by have := hB.size; omega) _).trans hB'⟩
      clear hO hB' ho hB
      go_wp2_with (at_builtin; refine wpList_append_go rfl (.tmp 13) (.tmp 19) 27 27 rfl _ _ rfl rfl hr ?_)
      exact ⟨R.out, by simp [intOf]; omega⟩
    · obtain rfl : k = sz := by omega
      go_wp2_with fail
      exact bodyPost_ret (by simp [results, Tryd.results71, go_sem]) rfl ⟨_, rfl, ho, hB⟩
set_option maxRecDepth 100000 in
set_option maxHeartbeats 4000000 in
theorem rbytes_any (h l : Int) (w : World) (h1 : Word h) (h2 : Word l) :
    Calls Tryd.prog 72 #[U h l] w fun e w' => e = .returned (.agg (cl .u8 16 (wide h l)).toArray) ∧ Below w.heap.size w w' := by
  rw [show (.agg (cl .u8 16 (wide h l)).toArray : Value) = BytesOf h l from (cells16_eq h l h1 h2).symm]
  obtain ⟨a1, a2⟩ := h1
  obtain ⟨b1, b2⟩ := h2
  go_enter Tryd.func72, Tryd.ntmps72
  go_wp2
  refine wp_loop_rounds 9 ?_
  iterate 9 (rw [rounds_succ]; go_wp2)
  exact bodyPost_ret (v := BytesOf h l) (by simp [results, Tryd.results72, go_sem]) rfl ⟨rfl, (((Below.refl _ _).alloc (Nat.le_refl _) _).alloc (by simp) _).alloc (by simp; omega) _⟩
end Go.Proofs.YtfpgkckcifjkcaaDoor
