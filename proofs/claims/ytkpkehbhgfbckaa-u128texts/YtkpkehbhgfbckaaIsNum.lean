/-
  Walks, not a claim by itself: u128.isNumber. By the verifier.
-/
import Derived.Test.YtkpkehbhgfbckaaNums
import Derived.Deep.Light
namespace Go.Proofs.Ytkpkehbhgfbckaa
open Go.RowKit

/-- A text is 0 alone, or digits that do not begin with 0. -/
def NumP (s : ByteArray) : Prop := (∀ (i : Nat) (h : i < s.size), (48 : Int) ≤ ((s[i]'h).toNat : Int) ∧ ((s[i]'h).toNat : Int) ≤ 57) ∧ 0 < s.size ∧ (∀ h : 0 < s.size, ((s[0]'h).toNat : Int) = 48 → s.size = 1)

theorem empty_of (s : ByteArray) (h : s.size = 0) : s.toList = [] := by
  rw [ByteArray.toList_eq]
  exact List.eq_nil_of_length_eq_zero ((Array.length_toList).trans h)
theorem empty_not (s : ByteArray) (h : ¬ s.size = 0) : ¬ s.toList = [] := by
  rw [ByteArray.toList_eq]
  intro e
  apply h
  have : s.data.toList.length = 0 := by rw [e]; rfl
  exact (Array.length_toList).symm.trans this
/-- What holds at the head of isNumber's loop. -/
def NumRel (s : ByteArray) (i : Value) : Prop := ∃ k : Nat, k ≤ s.size ∧ i = .int .i64 k ∧ ∀ (j : Nat) (h : j < s.size), j < k → (48 : Int) ≤ ((s[j]'h).toNat : Int) ∧ ((s[j]'h).toNat : Int) ≤ 57
theorem numrel_step (s : ByteArray) (k : Nat) (hk : k < s.size) (hr : ∀ (j : Nat) (h : j < s.size), j < k → (48 : Int) ≤ ((s[j]'h).toNat : Int) ∧ ((s[j]'h).toNat : Int) ≤ 57)
    (h1 : (48 : Int) ≤ ((s[k]'hk).toNat : Int)) (h2 : ((s[k]'hk).toNat : Int) ≤ 57) : NumRel s (.int .i64 ((k : Int) + 1)) := by
  refine ⟨k + 1, by omega, by go_num, ?_⟩
  intro j h hj
  by_cases e : j = k
  · subst e; exact ⟨h1, h2⟩
  · exact hr j h (by omega)
theorem num_not (s : ByteArray) (k : Nat) (hk : k < s.size) (h : ((s[k]'hk).toNat : Int) < 48 ∨ 57 < ((s[k]'hk).toNat : Int)) : (false = true ↔ NumP s) := by
  constructor
  · intro h; cases h
  · intro hn; have := hn.1 k hk; omega
theorem num_yes (s : ByteArray) (hr : ∀ (j : Nat) (h : j < s.size), j < s.size → (48 : Int) ≤ ((s[j]'h).toNat : Int) ∧ ((s[j]'h).toNat : Int) ≤ 57) (hp : 0 < s.size) (hf : ∀ h : 0 < s.size, ((s[0]'h).toNat : Int) = 48 → s.size = 1) : (true = true ↔ NumP s) :=
  ⟨fun _ => ⟨fun i h => hr i h h, hp, hf⟩, fun _ => rfl⟩
/-- What isNumber ends in. -/
def NumEnds (s : ByteArray) (w : World) (e : Ending) (w' : World) : Prop := ∃ b, e = .returned (.bool b) ∧ (b = true ↔ NumP s) ∧ w' = w
set_option maxHeartbeats 1000000 in
theorem isnum_any (s : ByteArray) (w : World) (hs : s.size ≤ 39) :
    Calls Try.prog 45 #[.string s] w fun e w' => NumEnds s w e w' := by
  by_cases h0 : s.size = 0
  · have e : s.toList = [] := empty_of s h0
    go_enter Try.func45, Try.ntmps45
    go_wp2
    go_ret
    refine ⟨false, rfl, ?_, rfl⟩
    unfold NumP
    constructor
    · intro h; cases h
    · intro h; omega
  · have ne : ¬ s.toList = [] := empty_not s h0
    have e : s.toList.isEmpty = false := by simpa using ne
    have hp : 0 < s.size := by omega
    clear h0
    go_enter Try.func45, Try.ntmps45
    go_wp2
    · go_ret
      refine ⟨false, rfl, ?_, rfl⟩
      constructor
      · intro h; cases h
      · intro hn
        have h1 : (1 : Int) < s.size := by assumption
        have := hn.2.2 hp (by assumption)
        omega
    · have HF : Hid (∀ h : 0 < s.size, ((s[0]'h).toNat : Int) = 48 → s.size = 1) := by
        intro _ _; omega
      go_loop [18] (fun i => NumRel s i) (fun i => s.size - (intOf i).toNat)
      case atStart => exact ⟨0, by omega, rfl, fun _ _ h => by omega⟩
      case round =>
        obtain ⟨k, hk, rfl, hr⟩ := hrel
        have HR : Hid (∀ (j : Nat) (h : j < s.size), j < k → (48 : Int) ≤ ((s[j]'h).toNat : Int) ∧ ((s[j]'h).toNat : Int) ≤ 57) := hr
        clear hr
        by_cases hlt : k < s.size
        · go_wp2
          · go_ret
            exact ⟨false, rfl, num_not s k hlt (by assumption), rfl⟩
          · exact ⟨numrel_step s k hlt HR.out (by assumption) (by omega), by simp [intOf]; omega⟩
          · go_ret
            exact ⟨false, rfl, num_not s k hlt (.inl (by assumption)), rfl⟩
        · obtain rfl : k = s.size := by omega
          go_wp2
          go_ret
          exact ⟨true, rfl, num_yes s HR.out hp HF.out, rfl⟩
    · have HF : Hid (∀ h : 0 < s.size, ((s[0]'h).toNat : Int) = 48 → s.size = 1) := by
        intro _ _; omega
      go_loop [18] (fun i => NumRel s i) (fun i => s.size - (intOf i).toNat)
      case atStart => exact ⟨0, by omega, rfl, fun _ _ h => by omega⟩
      case round =>
        obtain ⟨k, hk, rfl, hr⟩ := hrel
        have HR : Hid (∀ (j : Nat) (h : j < s.size), j < k → (48 : Int) ≤ ((s[j]'h).toNat : Int) ∧ ((s[j]'h).toNat : Int) ≤ 57) := hr
        clear hr
        by_cases hlt : k < s.size
        · go_wp2
          · go_ret
            exact ⟨false, rfl, num_not s k hlt (by assumption), rfl⟩
          · exact ⟨numrel_step s k hlt HR.out (by assumption) (by omega), by simp [intOf]; omega⟩
          · go_ret
            exact ⟨false, rfl, num_not s k hlt (.inl (by assumption)), rfl⟩
        · obtain rfl : k = s.size := by omega
          go_wp2
          go_ret
          exact ⟨true, rfl, num_yes s HR.out hp HF.out, rfl⟩
end Go.Proofs.Ytkpkehbhgfbckaa
