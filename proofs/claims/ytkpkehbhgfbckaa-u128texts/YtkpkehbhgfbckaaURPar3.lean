/-
  Walks, not a claim by itself: the reference's Parse, of a text that is too long, empty or begins with 0; and the two Parse beside one another. By the verifier.
-/
import Derived.Test.YtkpkehbhgfbckaaURPar
namespace Go.Proofs.Ytkpkehbhgfbckaa
open Go.RowKit
theorem rparse_long (s : ByteArray) (w : World) (hs : 39 < s.size) :
    Calls Try.prog 33 #[.string s] w fun e w' => e = .returned (.tuple #[U 0 0, .int .i64 3]) ∧ Below w.heap.size w w' := by
  have h : (39 : Int) < s.size := by omega
  go_enter Try.func33, Try.ntmps33
  go_wp2
  exact bodyPost_ret (v := .tuple #[U 0 0, .int .i64 3]) (by simp [results, Try.results33, go_sem]) rfl ⟨rfl, (Below.refl _ _).alloc (Nat.le_refl _) _⟩
theorem rparse_none (s : ByteArray) (w : World) (hs : s.size = 0) :
    Calls Try.prog 33 #[.string s] w fun e w' => RPost s e ∧ Below w.heap.size w w' := by
  have h : ¬ (39 : Int) < s.size := by omega
  have e2 : s.toList = [] := empty_of s hs
  have e4 : s.toList.isEmpty = true := by rw [e2]; rfl
  have HN : Hid (¬ NumP s) := fun hn => by have := hn.2.1; omega
  clear hs
  go_enter Try.func33, Try.ntmps33
  go_wp2
  exact bodyPost_ret (v := .tuple #[U 0 0, .int .i64 4]) (by simp [results, Try.results33, go_sem]) rfl ⟨.inr ⟨HN.out, rfl⟩, (Below.refl _ _).alloc (Nat.le_refl _) _⟩
theorem rparse_zero (s : ByteArray) (w : World) (hs : s.size ≤ 39) (h1 : 1 < s.size) (hf : ((s[0]'(by omega)).toNat : Int) = 48) :
    Calls Try.prog 33 #[.string s] w fun e w' => RPost s e ∧ Below w.heap.size w w' := by
  have e1 : ¬ (39 : Int) < s.size := by omega
  have e2 : ¬ s.toList = [] := empty_not s (by omega)
  have e3 : (1 : Int) < s.size := by omega
  have e4 : s.toList.isEmpty = false := by simpa using e2
  have hpos : 0 < s.size := by omega
  have HN : Hid (¬ NumP s) := fun hn => by have := hn.2.2 hpos hf; omega
  have hi0 : ∀ w, (Instr.index 9 (.string s) (.int .i64 0)).run Try.prog w = .ok (.int .u8 48) w := by rw [← hf]; exact index_str s 0 hpos
  clear hf
  go_enter Try.func33, Try.ntmps33
  go_wp2
  exact bodyPost_ret (v := .tuple #[U 0 0, .int .i64 4]) (by simp [results, Try.results33, go_sem]) rfl ⟨.inr ⟨HN.out, rfl⟩, (Below.refl _ _).alloc (Nat.le_refl _) _⟩
/-- The program's Parse ends so, too. -/
theorem parse_post (s : ByteArray) (w : World) (hs : s.size ≤ 39) : Calls Try.prog 32 #[.string s] w fun e w' => RPost s e ∧ Below w.heap.size w w' := by
  by_cases hn : NumP s
  · refine (parse_num s w hs hn).mono ?_
    rintro e w' ⟨⟨hl, x, y, rfl, hx, hy, hv⟩ | ⟨hl, rfl⟩, hB⟩
    · refine ⟨.inl ⟨hn, ?_⟩, hB⟩
      obtain ⟨rfl, rfl⟩ := words_uniq hx hy hv
      unfold parV; rw [if_pos (by omega)]
    · refine ⟨.inl ⟨hn, ?_⟩, hB⟩
      unfold parV; rw [if_neg (by omega)]
  · refine (parse_no s w hs hn).mono ?_
    rintro e w' ⟨rfl, hB⟩
    exact ⟨.inr ⟨hn, rfl⟩, hB⟩
theorem RPost.one (s : ByteArray) : ∃ (p q n : Int), ∀ e, RPost s e → e = .returned (.tuple #[U p q, .int .i64 n]) := by
  by_cases hn : NumP s
  · by_cases hl : ((val s.data.toList : Nat) : Int) < 340282366920938463463374607431768211456
    · refine ⟨hiW (val s.data.toList : Nat), loW (val s.data.toList : Nat), 0, fun e h => ?_⟩
      rcases h with ⟨_, rfl⟩ | ⟨h, _⟩
      · unfold parV; rw [if_pos hl]
      · exact absurd hn h
    · refine ⟨0, 0, 15, fun e h => ?_⟩
      rcases h with ⟨_, rfl⟩ | ⟨h, _⟩
      · unfold parV; rw [if_neg hl]
      · exact absurd hn h
  · refine ⟨0, 0, 4, fun e h => ?_⟩
    rcases h with ⟨h, _⟩ | ⟨_, rfl⟩
    · exact absurd h hn
    · rfl
end Go.Proofs.Ytkpkehbhgfbckaa
