/-
  Plain notions, not a claim by itself: worlds that are the same but for some blocks; maps from numbers to sectors; disks. By the verifier.
-/
import Derived.Test.YtblphlcnbnklmaaGreatDoorOff
import Derived.Test.YtblphlcnbnklmaaGreatDoorBApp
import Derived.Test.YtblphlcnbnklmaaGreatDoorReg
import Derived.Maps.Own
import Derived.Maps.Views
import Derived.Maps.OwnSet
import Derived.Lib.SlKeysI
namespace Go.Proofs.YtblphlcnbnklmaaGreatDoor
open Go.RowKit Go.Maps

/-- An element reads as itself. -/
def heldR (v : Value) : Option (DataW Value × List MemPlace) := some (.held v, [])
/-- A sector's bytes as Go has them. -/
def secV (f : Nat → Int) : Value := .agg (cl .u8 256 f).toArray
/-- Sector i of F. -/
def at256 (F : Nat → Int) (i : Nat) (j : Nat) : Int := F (i * 256 + j)
/-- What a map of old sectors has. -/
structure OldIs (D : DataW Value) (N : Nat) (lo : Nat → Bool) (ob : Nat → Int) : Prop where
  map : IsMap D
  only : ∀ i : Int, has D (.int .i64 i) = true → ∃ n : Nat, i = n ∧ n < N
  iff : ∀ n, n < N → has D (.int .i64 (n : Int)) = lo n
  val : ∀ n, n < N → lo n = true → ∀ z, D.atKey (.int .i64 (n : Int)) z = .held (secV (at256 ob n))
/-- Block m is such a map. -/
def MapOk (W : World) (m N : Nat) (lo : Nat → Bool) (ob : Nat → Int) : Prop := ∃ D n, W.ownsMap Tryz.prog 3 heldR m n D ∧ OldIs D N lo ob
theorem MapOk.lt {W : World} {m N : Nat} {lo : Nat → Bool} {ob : Nat → Int} (h : MapOk W m N lo ob) : m < W.heap.size := by
  obtain ⟨D, n, h, _⟩ := h
  exact h.lt
theorem own_same {W W' : World} {m n : Nat} {D : DataW Value} (h : W.ownsMap Tryz.prog 3 heldR m n D) (e : W'.heap[m]? = W.heap[m]?) : W'.ownsMap Tryz.prog 3 heldR m n D := by
  obtain ⟨es, clock, hb, r⟩ := h
  exact ⟨es, clock, e.trans hb, r⟩
theorem MapOk.same {W W' : World} {m N : Nat} {lo : Nat → Bool} {ob : Nat → Int} (h : MapOk W m N lo ob) (e : W'.heap[m]? = W.heap[m]?) : MapOk W' m N lo ob := by
  obtain ⟨D, n, h, k⟩ := h
  exact ⟨D, n, own_same h e, k⟩
theorem MapOk.off {W W' : World} {bs : List Nat} {m N : Nat} {lo : Nat → Bool} {ob : Nat → Int} (h : MapOk W m N lo ob) (hB : Off bs W W') (hm : m ∉ bs) : MapOk W' m N lo ob := h.same (hB.block m h.lt hm)
theorem MapOk.congr {W : World} {m N : Nat} {lo lo' : Nat → Bool} {ob ob' : Nat → Int} (h : MapOk W m N lo ob) (e1 : ∀ n, n < N → lo n = lo' n) (e2 : ∀ n, n < N → lo n = true → ∀ j, j < 256 → at256 ob n j = at256 ob' n j) : MapOk W m N lo' ob' := by
  obtain ⟨D, n, h, k⟩ := h
  refine ⟨D, n, h, k.map, k.only, fun i hi => (k.iff i hi).trans (e1 i hi), fun i hi hl z => ?_⟩
  rw [← e1 i hi] at hl
  rw [k.val i hi hl z]
  unfold secV
  rw [cl_congr .u8 256 _ _ (e2 i hi hl)]
theorem MapOk.new (W : World) (N : Nat) (ob : Nat → Int) : MapOk (W.alloc (.map #[] 0)) W.heap.size N (fun _ => false) ob :=
  ⟨.map [], 0, World.ownsMap_made W Tryz.prog _ heldR, ⟨isMap_empty, fun i h => by simp [has] at h, fun n _ => rfl, fun n _ h => by cases h⟩⟩
theorem keyed_int : Keyed Tryz.prog 3 := int_keyed Tryz.underlying3
theorem wf_i64 (i : Nat) (h : i < 9223372036854775808) : (Lit.int .i64 (i : Int)).wf = true := by
  simp [Lit.wf, IntKind.min, IntKind.max, IntKind.signed, IntKind.bits]
  omega
theorem key_nat (i : Nat) (h : i < 9223372036854775808) : keyOf Tryz.prog 3 (.int .i64 (i : Int)) = some (.int .i64 (i : Int)) := keyOf_int_mk Tryz.underlying3 (wf_i64 i h)
/-- The loose sectors, rising. -/
def looseL (N : Nat) (lo : Nat → Bool) : List Int := ((List.range N).filter lo).map fun (n : Nat) => (n : Int)
theorem looseL_nodup (N : Nat) (lo : Nat → Bool) : (looseL N lo).Nodup := by
  unfold looseL
  refine List.Pairwise.map _ (fun a b h => ?_) (List.nodup_range.filter lo)
  omega
theorem looseL_mem (N : Nat) (lo : Nat → Bool) (x : Int) : x ∈ looseL N lo ↔ ∃ n : Nat, x = n ∧ n < N ∧ lo n = true := by
  unfold looseL
  rw [List.mem_map]
  constructor
  · rintro ⟨n, hn, rfl⟩
    rw [List.mem_filter, List.mem_range] at hn
    exact ⟨n, rfl, hn⟩
  · rintro ⟨n, rfl, h1, h2⟩
    exact ⟨n, by rw [List.mem_filter, List.mem_range]; exact ⟨h1, h2⟩, rfl⟩
theorem looseL_len (N : Nat) (lo : Nat → Bool) : (looseL N lo).length ≤ N := by
  unfold looseL
  rw [List.length_map]
  have := List.length_filter_le lo (List.range N)
  rwa [List.length_range] at this
theorem looseL_sorted (N : Nat) (lo : Nat → Bool) : (looseL N lo).Pairwise (fun a b => a ≤ b) := by
  unfold looseL
  refine List.Pairwise.map _ (fun a b h => ?_) ((List.pairwise_lt_range (n := N)).filter lo)
  omega
end Go.Proofs.YtblphlcnbnklmaaGreatDoor
