/-
  Walks, not a claim by itself: merging in two steps. By the verifier.
-/
import Derived.Test.YtgpafmgncolnmaaMgKn
namespace Go.Proofs.Ytgpafmgncolnmaa
open Go.RowKit
/-! Plain facts: what is told of lists as one. -/
theorem srt_insD : ∀ (l : List Pr) (x : Pr), Srt l → Srt (insD l x)
  | [], x, _ => by simp [insD, Srt]
  | a :: r, x, h => by
    obtain ⟨h1, h2⟩ := List.pairwise_cons.1 h
    unfold insD
    split
    · rename_i e
      refine List.pairwise_cons.2 ⟨fun y hy => ?_, srt_insD r x h2⟩
      have : ∀ (l : List Pr) (x y : Pr), y ∈ insD l x → y = x ∨ y ∈ l := by
        intro l
        induction l with
        | nil => intro x y h; simp [insD] at h; exact .inl h
        | cons a r ih =>
          intro x y h
          unfold insD at h
          split at h
          · rcases List.mem_cons.1 h with rfl | h
            · exact .inr (by simp)
            · rcases ih x y h with h | h
              · exact .inl h
              · exact .inr (List.mem_cons_of_mem _ h)
          · split at h
            · exact .inr h
            · rcases List.mem_cons.1 h with h | h
              · exact .inl h
              · exact .inr h
      rcases this r x y hy with rfl | hy
      · exact e
      · exact h1 y hy
    · rename_i e
      split
      · exact h
      · rename_i z
        have g : cmpB x.k a.k < 0 := by rw [c_anti]; omega
        refine List.pairwise_cons.2 ⟨fun y hy => ?_, h⟩
        rcases List.mem_cons.1 hy with rfl | hy
        · exact g
        · exact c_trans g (h1 y hy)
theorem fnd_cons (a : Pr) (r : List Pr) (k : ByteArray) : fnd (a :: r) k = if a.k = k then some a else fnd r k := by
  unfold fnd
  rw [List.find?_cons]
  by_cases q : a.k = k <;> simp [q]
theorem fnd_insD : ∀ (l : List Pr) (x : Pr) (k : ByteArray), Srt l → fnd (insD l x) k = (fnd l k).or (if x.k = k then some x else none)
  | [], x, k, _ => by
    by_cases e : x.k = k <;> simp [insD, fnd, e]
  | a :: r, x, k, h => by
    obtain ⟨h1, h2⟩ := List.pairwise_cons.1 h
    unfold insD
    split
    · rename_i e
      rw [fnd_cons, fnd_cons, fnd_insD r x k h2]
      by_cases q : a.k = k <;> simp [q]
    · rename_i e
      split
      · rename_i z
        have y := (c_zero _ _).1 z
        rw [fnd_cons, ← y]
        by_cases q : a.k = k <;> simp [q]
      · rename_i z
        rw [fnd_cons]
        by_cases q : x.k = k
        · have : fnd (a :: r) k = none := fnd_none_of_lt fun y hy => by
            rw [← q]
            have g : cmpB x.k a.k < 0 := by rw [c_anti]; omega
            rcases List.mem_cons.1 hy with rfl | hy
            · exact g
            · exact c_trans g (h1 y hy)
          rw [this, if_pos q]
          simp
        · simp [q]
theorem fold_srt : ∀ (l acc : List Pr), Srt acc → Srt (l.foldl insD acc)
  | [], _, h => h
  | x :: r, acc, h => fold_srt r _ (srt_insD acc x h)
theorem fold_fnd : ∀ (l acc : List Pr) (k : ByteArray), Srt acc → fnd (l.foldl insD acc) k = (fnd acc k).or (fnd l k)
  | [], acc, k, _ => by simp [fnd]
  | x :: r, acc, k, h => by
    rw [List.foldl_cons, fold_fnd r _ k (srt_insD acc x h), fnd_insD acc x k h, Option.or_assoc, fnd_cons]
    congr 1
    by_cases q : x.k = k <;> simp [q]
theorem fnd_append (a b : List Pr) (k : ByteArray) : fnd (a ++ b) k = (fnd a k).or (fnd b k) := by unfold fnd; rw [List.find?_append]
/-- All pairs as one list. -/
def oneD (l : List Pr) : List Pr := l.foldl insD []
theorem oneD_srt (l : List Pr) : Srt (oneD l) := fold_srt l [] List.Pairwise.nil
theorem oneD_fnd (l : List Pr) (k : ByteArray) : fnd (oneD l) k = fnd l k := by
  unfold oneD
  rw [fold_fnd l [] k List.Pairwise.nil]
  rfl
theorem mrgD_false (m : List (List Pr)) : mrgD m false = oneD m.flatten := by unfold mrgD oneD; simp
theorem mrgD_one (m : List (List Pr)) (drop : Bool) : mrgD m drop = (oneD m.flatten).filter fun p => !(drop && p.g) := rfl
/-- Merging in two steps comes to the same. -/
theorem mrgD_two (a b : List (List Pr)) (drop : Bool) : mrgD [mrgD a false, mrgD b false] drop = mrgD (a ++ b) drop := by
  rw [mrgD_false, mrgD_false, mrgD_one, mrgD_one]
  congr 1
  refine srt_uniq _ _ (oneD_srt _) (oneD_srt _) fun k => ?_
  rw [oneD_fnd, oneD_fnd]
  simp only [List.flatten_cons, List.flatten_nil, List.append_nil, List.flatten_append]
  rw [fnd_append, fnd_append, oneD_fnd, oneD_fnd]
theorem oneD_len : ∀ (l acc : List Pr), (l.foldl insD acc).length ≤ acc.length + l.length
  | [], _ => by simp
  | x :: r, acc => by
    have ins : ∀ (l : List Pr), (insD l x).length ≤ l.length + 1 := by
      intro l
      induction l with
      | nil => simp [insD]
      | cons a r ih =>
        unfold insD
        split
        · simp; omega
        · split <;> simp
    have h1 := oneD_len r (insD acc x)
    have h2 := ins acc
    rw [List.foldl_cons, List.length_cons]
    omega
/-- Lists that may be merged. -/
theorem chkD_zero {m : List (List Pr)} (h : chkD m = 0) : m.length ≤ 32 ∧ (m.map List.length).sum ≤ 4096 ∧ ∀ l ∈ m, Srt l := by
  unfold chkD at h
  split at h
  · cases h
  · split at h
    · rename_i n q
      exact ⟨by omega, by omega, q⟩
    · cases h
theorem chkD_of {m : List (List Pr)} (h1 : m.length ≤ 32) (h2 : (m.map List.length).sum ≤ 4096) (h3 : ∀ l ∈ m, Srt l) : chkD m = 0 := by
  unfold chkD
  rw [if_neg (by omega), if_pos h3]
theorem chkD_part {a b : List (List Pr)} (h : chkD (a ++ b) = 0) : chkD a = 0 ∧ chkD b = 0 ∧ chkD [mrgD a false, mrgD b false] = 0 := by
  obtain ⟨h1, h2, h3⟩ := chkD_zero h
  rw [List.length_append] at h1
  rw [List.map_append, List.sum_append] at h2
  refine ⟨chkD_of (by omega) (by omega) (fun l hl => h3 l (by simp [hl])), chkD_of (by omega) (by omega) (fun l hl => h3 l (by simp [hl])), chkD_of (by simp) ?_ (fun l hl => ?_)⟩
  · rw [mrgD_false, mrgD_false]
    have l1 := oneD_len a.flatten []
    have l2 := oneD_len b.flatten []
    rw [List.length_flatten] at l1 l2
    unfold oneD
    simp at l1 l2 ⊢
    omega
  · simp only [List.mem_cons, List.not_mem_nil, or_false] at hl
    rcases hl with rfl | rfl <;> rw [mrgD_false] <;> exact oneD_srt _
theorem pick_any (W : World) (x : Int) (n : Nat) (h1 : 1 ≤ n) (h2 : n ≤ 1000) : Calls Try.prog 31 #[.int .i64 x, .int .i64 (n : Int)] W fun e w' => ∃ k : Nat, k < n ∧ e = .returned (.int .i64 (k : Int)) ∧ w' = W := by
  have e1 : ((n : Int) < 1) = False := eq_false (by omega)
  have e1' : (n < 1) = False := eq_false (by omega)
  have e0 : (n = 0) = False := eq_false (by omega)
  have m1 : -(n : Int) < Int.tmod x n ∧ Int.tmod x n < n := ⟨by have := Int.lt_tmod_of_pos x (b := (n : Int)) (by omega); omega, Int.tmod_lt_of_pos x (by omega)⟩
  have w1 : IntKind.i64.wrap (Int.tmod x (n : Int)) = Int.tmod x (n : Int) := by
    obtain ⟨r, hr⟩ : ∃ r, r = Int.tmod x (n : Int) := ⟨_, rfl⟩
    rw [← hr] at m1 ⊢
    rw [IntKind.wrap_i64]; omega
  have w1' : wrap64 (Int.tmod x (n : Int)) = Int.tmod x (n : Int) := by
    obtain ⟨r, hr⟩ : ∃ r, r = Int.tmod x (n : Int) := ⟨_, rfl⟩
    rw [← hr] at m1 ⊢
    unfold wrap64; omega
  by_cases h3 : Int.tmod x (n : Int) < 0
  · have e3 : (Int.tmod x (n : Int) < 0) = True := eq_true h3
    obtain ⟨k, hk⟩ : ∃ k : Nat, (k : Int) = Int.tmod x (n : Int) + n := ⟨(Int.tmod x (n : Int) + n).toNat, by omega⟩
    have w2' : wrap64 (Int.tmod x (n : Int) + (n : Int)) = (k : Int) := by
      rw [← hk]
      have : k < n := by omega
      clear hk
      unfold wrap64; omega
    have w2 : IntKind.i64.wrap (Int.tmod x (n : Int) + (n : Int)) = (k : Int) := by
      rw [← hk]
      have : k < n := by omega
      clear hk
      rw [IntKind.wrap_i64]; omega
    have KN := hidIt (show k < n by omega)
    clear h1 h2 m1 h3 hk
    go_enter Try.func31, Try.ntmps31
    go_wp2
    all_goals (first | exact ⟨k, KN.out, rfl, rfl⟩ | (go_ret; first | exact ⟨k, KN.out, rfl, rfl⟩ | exact ⟨k, KN.out, by simp [w2, w2'], rfl⟩))
  · have e3 : (Int.tmod x (n : Int) < 0) = False := eq_false h3
    obtain ⟨k, hk⟩ : ∃ k : Nat, Int.tmod x (n : Int) = (k : Int) := ⟨(Int.tmod x (n : Int)).toNat, by omega⟩
    have KN := hidIt (show k < n by omega)
    have HK := hidIt hk
    clear h1 h2 m1 h3 hk
    go_enter Try.func31, Try.ntmps31
    go_wp2
    all_goals (go_ret; exact ⟨k, KN.out, by simp [HK.out], rfl⟩)
end Go.Proofs.Ytgpafmgncolnmaa
