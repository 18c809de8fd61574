/-
  Plain facts, not a claim by itself: texts and numbers lead back to one another. By the verifier.
-/
import Derived.Test.YtkpkehbhgfbckaaParse
import Derived.Laws.BytesArg
namespace Go.Proofs.Ytkpkehbhgfbckaa
open Go.RowKit

/-- A byte of text. -/
def chr (n : Int) : UInt8 := UInt8.ofNat n.toNat
theorem chr_toNat (n : Int) (h0 : 0 ≤ n) (h1 : n < 256) : (chr n).toNat = n.toNat := by
  unfold chr
  rw [UInt8.toNat_ofNat']
  exact Nat.mod_eq_of_lt (by omega)
theorem str_list (xs : List Int) : (strOfNums xs).data.toList = xs.map chr := rfl
theorem val_chr (l : List UInt8) (d : Nat) (h : d < 10) : val (l ++ [chr (48 + (d : Int))]) = val l * 10 + d := by
  rw [val_snoc, chr_toNat _ (by omega) (by omega)]
  omega
theorem val_txt : ∀ n : Nat, val ((txt n).map chr) = n := by
  intro n
  induction n using Nat.strongRecOn with
  | ind n ih =>
    by_cases h : n < 10
    · rw [txt_small n h]
      have := val_chr [] n h
      simpa [val] using this
    · rw [txt_great n (by omega), List.map_append, List.map_cons, List.map_nil, val_chr _ _ (by omega), ih (n / 10) (by omega)]
      omega
theorem txt_len : ∀ (k n : Nat), n < 10 ^ (k + 1) → (txt n).length ≤ k + 1 := by
  intro k
  induction k with
  | zero => intro n h; rw [txt_small n (by simpa using h)]; simp
  | succ k ih =>
    intro n h
    by_cases g : n < 10
    · rw [txt_small n g]; simp
    · rw [txt_great n (by omega), List.length_append, List.length_singleton]
      have e : (10 : Nat) ^ (k + 1 + 1) = 10 ^ (k + 1) * 10 := Nat.pow_succ ..
      rw [e] at h
      have := ih (n / 10) (by generalize (10 : Nat) ^ (k + 1) = p at *; omega)
      omega
theorem txt_digits : ∀ n : Nat, ∀ x ∈ txt n, (48 : Int) ≤ x ∧ x ≤ 57 := by
  intro n
  induction n using Nat.strongRecOn with
  | ind n ih =>
    by_cases h : n < 10
    · rw [txt_small n h]; intro x hx; simp at hx; omega
    · rw [txt_great n (by omega)]
      intro x hx
      rw [List.mem_append] at hx
      rcases hx with hx | hx
      · exact ih (n / 10) (by omega) x hx
      · simp at hx; omega
/-- The first digit is 0 for the number 0 alone. -/
theorem txt_head : ∀ n : Nat, ∃ x xs, txt n = x :: xs ∧ (n ≠ 0 → x ≠ 48) := by
  intro n
  induction n using Nat.strongRecOn with
  | ind n ih =>
    by_cases h : n < 10
    · exact ⟨_, _, txt_small n h, fun h0 => by omega⟩
    · obtain ⟨x, xs, e, hx⟩ := ih (n / 10) (by omega)
      refine ⟨x, xs ++ [48 + ((n % 10 : Nat) : Int)], ?_, fun _ => hx (by omega)⟩
      rw [txt_great n (by omega), e]; rfl
theorem get_str (xs : List Int) (i : Nat) (h : i < (strOfNums xs).size) (h' : i < xs.length) : ((strOfNums xs)[i]'h) = chr (xs[i]'h') := by
  show (strOfNums xs).data[i] = _
  simp [strOfNums, chr]
theorem num_txt (n : Nat) : NumP (strOfNums (txt n)) := by
  have hsz : (strOfNums (txt n)).size = (txt n).length := strOfNums_size _
  obtain ⟨x, xs, e, hx⟩ := txt_head n
  refine ⟨?_, ?_, ?_⟩
  · intro i h
    have h' : i < (txt n).length := by omega
    rw [get_str _ i h h']
    have d := txt_digits n _ (List.getElem_mem h')
    rw [chr_toNat _ (by omega) (by omega)]
    omega
  · rw [hsz, e]; simp
  · intro h h48
    have h' : 0 < (txt n).length := by omega
    rw [get_str _ 0 h h'] at h48
    have d := txt_digits n _ (List.getElem_mem h')
    rw [chr_toNat _ (by omega) (by omega)] at h48
    have h0 : (txt n)[0]'h' = x := by simp [e]
    rw [h0] at h48 d
    by_cases hn : n = 0
    · subst hn; rw [hsz]; rfl
    · exact absurd (by omega) (hx hn)

/-- A digit as a number. -/
def ch (c : UInt8) : Int := (c.toNat : Int)
theorem chr_ch (c : UInt8) : chr (ch c) = c := by
  unfold chr ch
  rw [Int.toNat_natCast]
  exact UInt8.ofNat_toNat
theorem txt_val_snoc (l : List UInt8) (c : UInt8) (hc : 48 ≤ c.toNat ∧ c.toNat ≤ 57) (h : val l ≠ 0) : txt (val (l ++ [c])) = txt (val l) ++ [ch c] := by
  rw [val_snoc, txt_great _ (by omega)]
  have e1 : (val l * 10 + (c.toNat - 48)) / 10 = val l := by omega
  have e2 : (val l * 10 + (c.toNat - 48)) % 10 = c.toNat - 48 := by omega
  rw [e1, e2]
  unfold ch
  congr 2
  omega
theorem txt_val_one (c : UInt8) (hc : 48 ≤ c.toNat ∧ c.toNat ≤ 57) : txt (val [c]) = [ch c] := by
  have e : val [c] = c.toNat - 48 := by unfold val; simp
  rw [e, txt_small _ (by omega)]
  unfold ch
  congr 1
  omega
theorem txt_val_list : ∀ (l : List UInt8) (c : UInt8), (48 ≤ c.toNat ∧ c.toNat ≤ 57) → c.toNat ≠ 48 → (∀ x ∈ l, 48 ≤ x.toNat ∧ x.toNat ≤ 57) → val (c :: l.reverse) ≠ 0 ∧ txt (val (c :: l.reverse)) = (c :: l.reverse).map ch := by
  intro l
  induction l with
  | nil =>
    intro c hc h48 _
    refine ⟨?_, txt_val_one c hc⟩
    have e : val [c] = c.toNat - 48 := by unfold val; simp
    rw [List.reverse_nil, e]; omega
  | cons d l ih =>
    intro c hc h48 hl
    obtain ⟨i1, i2⟩ := ih c hc h48 (fun x hx => hl x (List.mem_cons_of_mem _ hx))
    have hd := hl d (List.mem_cons_self ..)
    rw [List.reverse_cons, ← List.cons_append]
    refine ⟨by rw [val_snoc]; omega, ?_⟩
    rw [txt_val_snoc _ d hd i1, i2, List.map_append]; rfl
/-- A text that is a number is that number's text. -/
theorem txt_val (s : ByteArray) (h : NumP s) : strOfNums (txt (val s.data.toList)) = s := by
  obtain ⟨hd, hp, hf⟩ := h
  have hlen : s.data.toList.length = s.size := Array.length_toList
  have key : txt (val s.data.toList) = s.data.toList.map ch := by
    match hl : s.data.toList, hlen with
    | [], hlen => simp at hlen; omega
    | c :: r, hlen =>
      have digits : ∀ x ∈ s.data.toList, 48 ≤ x.toNat ∧ x.toNat ≤ 57 := by
        intro x hx
        obtain ⟨i, hi, rfl⟩ := List.getElem_of_mem hx
        have hi' : i < s.size := Nat.lt_of_lt_of_eq hi Array.length_toList
        have := hd i hi'
        have e : s.data.toList[i] = s[i]'hi' := by simp; rfl
        rw [e]; omega
      rw [hl] at digits
      have hc := digits c (List.mem_cons_self ..)
      have hr : ∀ x ∈ r.reverse, 48 ≤ x.toNat ∧ x.toNat ≤ 57 := fun x hx => digits x (List.mem_cons_of_mem _ (List.mem_reverse.1 hx))
      by_cases h48 : c.toNat = 48
      · have e0 : s[0]'hp = c := by
          have : s.data.toList[0]'(by rw [hl]; simp) = c := by simp [hl]
          rw [← this]; simp; rfl
        have h1 := hf hp (by rw [e0]; omega)
        match r, hlen with
        | [], _ => exact txt_val_one c hc
        | y :: ys, hlen => simp at hlen; omega
      · have := (txt_val_list r.reverse c hc h48 hr).2
        rw [List.reverse_reverse] at this
        exact this
  rw [key]
  have e : (s.data.toList.map ch).map chr = s.data.toList := by
    rw [List.map_map]
    conv => rhs; rw [← List.map_id s.data.toList]
    exact List.map_congr_left fun c _ => chr_ch c
  show (⟨((s.data.toList.map ch).map chr).toArray⟩ : ByteArray) = s
  rw [e]
end Go.Proofs.Ytkpkehbhgfbckaa
