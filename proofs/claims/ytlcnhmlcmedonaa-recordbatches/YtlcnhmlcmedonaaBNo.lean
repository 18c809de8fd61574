/-
  Walks, not a claim by itself: what record's readers answer at counts of bytes that are wrong. By the verifier.
-/
import Derived.Test.YtlcnhmlcmedonaaRec
namespace Go.Proofs.Ytlcnhmlcmedonaa
open Go.RowKit

set_option maxRecDepth 100000 in
theorem readBatchA_bytes (a : Option Addr) (len cap : Nat) (w : World) (h : len % 128 ≠ 0) :
    Calls Try.prog 38 #[.slice a len cap, .func (.func 39) #[] #[]] w fun e w' => e = .returned (.tuple #[.slice none 0 0, .int .i64 4]) ∧ Below w.heap.size w w' := by
  have h1 : ((len : Int).tmod 128 != 0) = true := by rw [Int.tmod_eq_emod_of_nonneg (by omega)]; simp; omega
  have h2 : ((len : Int) % 128 != 0) = true := by simp; omega
  have h3 : ¬ (len : Int) % 128 = 0 := by omega
  go_enter Try.func38, Try.ntmps38
  go_wp2
  exact bodyPost_ret (v := .tuple #[.slice none 0 0, .int .i64 4]) (by simp [results, Try.results38]) rfl ⟨rfl, (Below.refl _ _).alloc (Nat.le_refl _) _⟩

set_option maxRecDepth 100000 in
theorem readBatchA_long (a : Option Addr) (len cap : Nat) (w : World) (h : len % 128 = 0) (h9 : 1152 ≤ len) (hm : len ≤ 1000000) :
    Calls Try.prog 38 #[.slice a len cap, .func (.func 39) #[] #[]] w fun e w' => e = .returned (.tuple #[.slice none 0 0, .int .i64 3]) ∧ Below w.heap.size w w' := by
  have h1 : ((len : Int).tmod 128 != 0) = false := by rw [Int.tmod_eq_emod_of_nonneg (by omega)]; simp; omega
  have h2 : ((len : Int) % 128 != 0) = false := by simp; omega
  have h3 : (len : Int) % 128 = 0 := by omega
  have h6 : wrap64 ((len : Int) / 128) = (len : Int) / 128 := by unfold wrap64; omega
  have h4 : (8 : Int) < (len : Int) / 128 := by omega
  have h5 : (8 : Int) < (len : Int).tdiv 128 := by rw [Int.tdiv_eq_ediv_of_nonneg (by omega)]; omega
  go_enter Try.func38, Try.ntmps38
  go_wp2
  exact bodyPost_ret (v := .tuple #[.slice none 0 0, .int .i64 3]) (by simp [results, Try.results38]) rfl ⟨rfl, (Below.refl _ _).alloc (Nat.le_refl _) _⟩

set_option maxRecDepth 100000 in
theorem readBatchT_bytes (a : Option Addr) (len cap : Nat) (w : World) (h : len % 128 ≠ 0) :
    Calls Try.prog 42 #[.slice a len cap, .func (.func 43) #[] #[]] w fun e w' => e = .returned (.tuple #[.slice none 0 0, .int .i64 4]) ∧ Below w.heap.size w w' := by
  have h1 : ((len : Int).tmod 128 != 0) = true := by rw [Int.tmod_eq_emod_of_nonneg (by omega)]; simp; omega
  have h2 : ((len : Int) % 128 != 0) = true := by simp; omega
  have h3 : ¬ (len : Int) % 128 = 0 := by omega
  go_enter Try.func42, Try.ntmps42
  go_wp2
  exact bodyPost_ret (v := .tuple #[.slice none 0 0, .int .i64 4]) (by simp [results, Try.results42]) rfl ⟨rfl, (Below.refl _ _).alloc (Nat.le_refl _) _⟩

set_option maxRecDepth 100000 in
theorem readBatchT_long (a : Option Addr) (len cap : Nat) (w : World) (h : len % 128 = 0) (h9 : 1152 ≤ len) (hm : len ≤ 1000000) :
    Calls Try.prog 42 #[.slice a len cap, .func (.func 43) #[] #[]] w fun e w' => e = .returned (.tuple #[.slice none 0 0, .int .i64 3]) ∧ Below w.heap.size w w' := by
  have h1 : ((len : Int).tmod 128 != 0) = false := by rw [Int.tmod_eq_emod_of_nonneg (by omega)]; simp; omega
  have h2 : ((len : Int) % 128 != 0) = false := by simp; omega
  have h3 : (len : Int) % 128 = 0 := by omega
  have h6 : wrap64 ((len : Int) / 128) = (len : Int) / 128 := by unfold wrap64; omega
  have h4 : (8 : Int) < (len : Int) / 128 := by omega
  have h5 : (8 : Int) < (len : Int).tdiv 128 := by rw [Int.tdiv_eq_ediv_of_nonneg (by omega)]; omega
  go_enter Try.func42, Try.ntmps42
  go_wp2
  exact bodyPost_ret (v := .tuple #[.slice none 0 0, .int .i64 3]) (by simp [results, Try.results42]) rfl ⟨rfl, (Below.refl _ _).alloc (Nat.le_refl _) _⟩

set_option maxRecDepth 100000 in
theorem readAccounts_bytes (a : Option Addr) (len cap : Nat) (w : World) (h : len % 128 ≠ 0) :
    Calls Try.prog 20 #[.slice a len cap] w fun e w' => e = .returned (.tuple #[.slice none 0 0, .int .i64 4]) ∧ Below w.heap.size w w' := by
  go_enter Try.func20, Try.ntmps20
  go_wp2_with fail
  refine (readBatchA_bytes a len cap _ h).mono ?_
  rintro e w1 ⟨rfl, hb⟩
  go_wp2_with fail
  exact bodyPost_ret (v := .tuple #[.slice none 0 0, .int .i64 4]) (by simp [results, Try.results20]) rfl ⟨rfl, hb⟩

set_option maxRecDepth 100000 in
theorem readAccounts_long (a : Option Addr) (len cap : Nat) (w : World) (h : len % 128 = 0) (h9 : 1152 ≤ len) (hm : len ≤ 1000000) :
    Calls Try.prog 20 #[.slice a len cap] w fun e w' => e = .returned (.tuple #[.slice none 0 0, .int .i64 3]) ∧ Below w.heap.size w w' := by
  go_enter Try.func20, Try.ntmps20
  go_wp2_with fail
  refine (readBatchA_long a len cap _ h h9 hm).mono ?_
  rintro e w1 ⟨rfl, hb⟩
  go_wp2_with fail
  exact bodyPost_ret (v := .tuple #[.slice none 0 0, .int .i64 3]) (by simp [results, Try.results20]) rfl ⟨rfl, hb⟩

set_option maxRecDepth 100000 in
theorem readTransfers_bytes (a : Option Addr) (len cap : Nat) (w : World) (h : len % 128 ≠ 0) :
    Calls Try.prog 22 #[.slice a len cap] w fun e w' => e = .returned (.tuple #[.slice none 0 0, .int .i64 4]) ∧ Below w.heap.size w w' := by
  go_enter Try.func22, Try.ntmps22
  go_wp2_with fail
  refine (readBatchT_bytes a len cap _ h).mono ?_
  rintro e w1 ⟨rfl, hb⟩
  go_wp2_with fail
  exact bodyPost_ret (v := .tuple #[.slice none 0 0, .int .i64 4]) (by simp [results, Try.results22]) rfl ⟨rfl, hb⟩

set_option maxRecDepth 100000 in
theorem readTransfers_long (a : Option Addr) (len cap : Nat) (w : World) (h : len % 128 = 0) (h9 : 1152 ≤ len) (hm : len ≤ 1000000) :
    Calls Try.prog 22 #[.slice a len cap] w fun e w' => e = .returned (.tuple #[.slice none 0 0, .int .i64 3]) ∧ Below w.heap.size w w' := by
  go_enter Try.func22, Try.ntmps22
  go_wp2_with fail
  refine (readBatchT_long a len cap _ h h9 hm).mono ?_
  rintro e w1 ⟨rfl, hb⟩
  go_wp2_with fail
  exact bodyPost_ret (v := .tuple #[.slice none 0 0, .int .i64 3]) (by simp [results, Try.results22]) rfl ⟨rfl, hb⟩
end Go.Proofs.Ytlcnhmlcmedonaa
