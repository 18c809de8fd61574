/-
  Plain notions and walks, not a claim by itself: the record of 128 bytes; the cursor's takes, step by step. By the verifier.
-/
import Derived.Test.YtlcnhmlcmedonaaT128
import Derived.Test.YtlcnhmlcmedonaaFld
namespace Go.Proofs.Ytlcnhmlcmedonaa
open Go.RowKit
/-- The record of 128 bytes. -/
def recOf (f : Nat → Int) : Fld := ⟨(hi16 (fun j => f (0 + j))), (lo16 (fun j => f (0 + j))), (hi16 (fun j => f (16 + j))), (lo16 (fun j => f (16 + j))), (hi16 (fun j => f (32 + j))), (lo16 (fun j => f (32 + j))), (hi16 (fun j => f (48 + j))), (lo16 (fun j => f (48 + j))), (hi16 (fun j => f (64 + j))), (lo16 (fun j => f (64 + j))), (hi16 (fun j => f (80 + j))), (lo16 (fun j => f (80 + j))), (ps (fun j => f (96 + j)) 8), (ps (fun j => f (104 + j)) 4), (ps (fun j => f (108 + j)) 4), (ps (fun j => f (112 + j)) 4), (ps (fun j => f (116 + j)) 2), (ps (fun j => f (118 + j)) 2), (ps (fun j => f (120 + j)) 8)⟩
/-- A record's cells. -/
def Fld.cells (a : Fld) : List Value := [.int .u64 a.h0, .int .u64 a.l0, .int .u64 a.h1, .int .u64 a.l1, .int .u64 a.h2, .int .u64 a.l2, .int .u64 a.h3, .int .u64 a.l3, .int .u64 a.h4, .int .u64 a.l4, .int .u64 a.h5, .int .u64 a.l5, .int .u64 a.p, .int .u32 a.q, .int .u32 a.r, .int .u32 a.s, .int .u16 a.t, .int .u16 a.u, .int .u64 a.v]
theorem Fld.cells_one (a : Fld) : ∀ v ∈ a.cells, v.oneCell' = true := by
  intro v hv
  simp only [Fld.cells, List.mem_cons, List.not_mem_nil, or_false] at hv
  rcases hv with rfl | rfl | rfl | rfl | rfl | rfl | rfl | rfl | rfl | rfl | rfl | rfl | rfl | rfl | rfl | rfl | rfl | rfl | rfl <;> rfl
theorem recOf_cells (f : Nat → Int) : [.int .u64 (hi16 (fun j => f (0 + j))), .int .u64 (lo16 (fun j => f (0 + j))), .int .u64 (hi16 (fun j => f (16 + j))), .int .u64 (lo16 (fun j => f (16 + j))), .int .u64 (hi16 (fun j => f (32 + j))), .int .u64 (lo16 (fun j => f (32 + j))), .int .u64 (hi16 (fun j => f (48 + j))), .int .u64 (lo16 (fun j => f (48 + j))), .int .u64 (hi16 (fun j => f (64 + j))), .int .u64 (lo16 (fun j => f (64 + j))), .int .u64 (hi16 (fun j => f (80 + j))), .int .u64 (lo16 (fun j => f (80 + j))), .int .u64 (ps (fun j => f (96 + j)) 8), .int .u32 (ps (fun j => f (104 + j)) 4), .int .u32 (ps (fun j => f (108 + j)) 4), .int .u32 (ps (fun j => f (112 + j)) 4), .int .u16 (ps (fun j => f (116 + j)) 2), .int .u16 (ps (fun j => f (118 + j)) 2), .int .u64 (ps (fun j => f (120 + j)) 8)] = (recOf f).cells := rfl
theorem Fld.cells_len (a : Fld) : a.cells.length = 19 := rfl
theorem take128_to (b off off' L L' C C' n o : Nat) (cs cs' : List Value) (f : Nat → Int) (w : World) (h : Lies w b off 16 f) (hr : Rec19 w n 0 cs) (hc : o + 1 < cs.length) (hL : 16 ≤ L) (ho : 16 < C) (e1 : off + 16 = off') (e2 : L - 16 = L') (e3 : C - 16 = C') (e4 : (cs.set o (.int .u64 (hi16 f))).set (o + 1) (.int .u64 (lo16 f)) = cs') :
    Calls Try.prog 49 #[.agg #[.slice (some ⟨b, off, none⟩) L C], .pointer (some ⟨n, o, none⟩)] w fun e w' => e = .returned (.agg #[.slice (some ⟨b, off', none⟩) L' C']) ∧ Rec19 w' n 0 cs' ∧ But n w w' := by
  subst e1 e2 e3 e4
  exact take128_mid b off L C n o cs f w h hr hc hL ho
theorem take64_to (b off off' L L' C C' n o : Nat) (cs cs' : List Value) (f : Nat → Int) (w : World) (h : Lies w b off 8 f) (hr : Rec19 w n 0 cs) (hc : o < cs.length) (hL : 8 ≤ L) (ho : 8 < C) (e1 : off + 8 = off') (e2 : L - 8 = L') (e3 : C - 8 = C') (e4 : cs.set o (.int .u64 (ps f 8)) = cs') :
    Calls Try.prog 50 #[.agg #[.slice (some ⟨b, off, none⟩) L C], .pointer (some ⟨n, o, none⟩)] w fun e w' => e = .returned (.agg #[.slice (some ⟨b, off', none⟩) L' C']) ∧ Rec19 w' n 0 cs' ∧ But n w w' := by
  subst e1 e2 e3 e4
  exact take64_mid b off L C n o cs f w h hr hc hL ho
theorem take32_to (b off off' L L' C C' n o : Nat) (cs cs' : List Value) (f : Nat → Int) (w : World) (h : Lies w b off 4 f) (hr : Rec19 w n 0 cs) (hc : o < cs.length) (hL : 4 ≤ L) (ho : 4 < C) (e1 : off + 4 = off') (e2 : L - 4 = L') (e3 : C - 4 = C') (e4 : cs.set o (.int .u32 (ps f 4)) = cs') :
    Calls Try.prog 51 #[.agg #[.slice (some ⟨b, off, none⟩) L C], .pointer (some ⟨n, o, none⟩)] w fun e w' => e = .returned (.agg #[.slice (some ⟨b, off', none⟩) L' C']) ∧ Rec19 w' n 0 cs' ∧ But n w w' := by
  subst e1 e2 e3 e4
  exact take32_mid b off L C n o cs f w h hr hc hL ho
theorem take16_to (b off off' L L' C C' n o : Nat) (cs cs' : List Value) (f : Nat → Int) (w : World) (h : Lies w b off 2 f) (hr : Rec19 w n 0 cs) (hc : o < cs.length) (hL : 2 ≤ L) (ho : 2 < C) (e1 : off + 2 = off') (e2 : L - 2 = L') (e3 : C - 2 = C') (e4 : cs.set o (.int .u16 (ps f 2)) = cs') :
    Calls Try.prog 52 #[.agg #[.slice (some ⟨b, off, none⟩) L C], .pointer (some ⟨n, o, none⟩)] w fun e w' => e = .returned (.agg #[.slice (some ⟨b, off', none⟩) L' C']) ∧ Rec19 w' n 0 cs' ∧ But n w w' := by
  subst e1 e2 e3 e4
  exact take16_mid b off L C n o cs f w h hr hc hL ho
theorem take64_last (b off C n o : Nat) (cs cs' : List Value) (f : Nat → Int) (w : World) (h : Lies w b off 8 f) (hr : Rec19 w n 0 cs) (hc : o < cs.length) (ho : 8 ≤ C) (e4 : cs.set o (.int .u64 (ps f 8)) = cs') :
    Calls Try.prog 50 #[.agg #[.slice (some ⟨b, off, none⟩) 8 C], .pointer (some ⟨n, o, none⟩)] w fun e w' => (∃ off' C', e = .returned (.agg #[.slice (some ⟨b, off', none⟩) 0 C'])) ∧ Rec19 w' n 0 cs' ∧ But n w w' := by
  subst e4
  by_cases g : C = 8
  · subst g
    refine (take64_end b off 8 8 n o cs f w h hr hc rfl rfl).mono ?_
    rintro e w' ⟨rfl, h1, h2⟩
    exact ⟨⟨_, _, rfl⟩, h1, h2⟩
  · refine (take64_mid b off 8 C n o cs f w h hr hc (Nat.le_refl _) (by omega)).mono ?_
    rintro e w' ⟨rfl, h1, h2⟩
    exact ⟨⟨_, _, rfl⟩, h1, h2⟩
end Go.Proofs.Ytlcnhmlcmedonaa
