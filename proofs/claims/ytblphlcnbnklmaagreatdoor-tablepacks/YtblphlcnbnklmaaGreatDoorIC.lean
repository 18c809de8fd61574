
/-
  Walks, not a claim by itself: the statements' two: the chapter's grid behind its first two calls. By the verifier.
-/
import Derived.Test.YtblphlcnbnklmaaGreatDoorIA
import Derived.Test.YtblphlcnbnklmaaGreatDoorIB
import Derived.Test.YtblphlcnbnklmaaGreatDoorGVal
import Derived.Test.YtblphlcnbnklmaaGreatDoorGByt2
import Derived.Test.YtblphlcnbnklmaaGreatDoorGPut
import Derived.Test.YtblphlcnbnklmaaGreatDoorGTk2
import Derived.Test.YtblphlcnbnklmaaGreatDoorGRd
import Derived.Test.YtblphlcnbnklmaaGreatDoorGSame
import Derived.Deep.RegionHeld3
import Derived.DeepKeys4
import Derived.Test.YtblphlcnbnklmaaGreatDoorRecs
import Derived.Test.YtblphlcnbnklmaaGreatDoorReg2
import Derived.Laws.IdiomStrings
namespace Go.Proofs.YtblphlcnbnklmaaGreatDoor
open Go.RowKit Go.Maps
/-- The six cells of a grid. -/
def gC (g : Option Addr) (d n b : Nat) (v : Value) (m : Nat) : List Value := [.pointer g, .pointer (some ⟨d, 0, none⟩), .int .i64 (n : Int), .pointer (some ⟨b, 0, none⟩), v, .map (some m)]
theorem gC_one (g : Option Addr) (d n b : Nat) (v : Value) (m : Nat) (hv : v.oneCell' = true) : ∀ u ∈ gC g d n b v m, u.oneCell' = true := by
  intro u hu
  simp only [gC, List.mem_cons, List.not_mem_nil, or_false] at hu
  rcases hu with rfl | rfl | rfl | rfl | rfl | rfl <;> first | exact hv | rfl
/-- A grid that was made lies at block g. -/
def GAt (W : World) (g d n b : Nat) (v : Value) (m : Nat) : Prop := Rec19 W g 0 (gC (some ⟨g, 0, none⟩) d n b v m)
theorem GAt.below {W W' : World} {g d n b m : Nat} {v : Value} (h : GAt W g d n b v m) (hB : Below W.heap.size W W') : GAt W' g d n b v m := Rec19.below h hB
theorem GAt.off {W W' : World} {bs : List Nat} {g d n b m : Nat} {v : Value} (h : GAt W g d n b v m) (hB : Off bs W W') (hg : g ∉ bs) : GAt W' g d n b v m := Rec19.off h hB hg
theorem GAt.c0 {W : World} {g d n b m : Nat} {v : Value} (h : GAt W g d n b v m) : W.cell? ⟨g, 0, none⟩ = some (.pointer (some ⟨g, 0, none⟩)) := (Rec19.cel h 0 _ rfl).1
theorem GAt.c1 {W : World} {g d n b m : Nat} {v : Value} (h : GAt W g d n b v m) : W.cell? ⟨g, 1, none⟩ = some (.pointer (some ⟨d, 0, none⟩)) := (Rec19.cel h 1 _ rfl).1
theorem GAt.c2 {W : World} {g d n b m : Nat} {v : Value} (h : GAt W g d n b v m) : W.cell? ⟨g, 2, none⟩ = some (.int .i64 (n : Int)) := (Rec19.cel h 2 _ rfl).1
theorem GAt.c3 {W : World} {g d n b m : Nat} {v : Value} (h : GAt W g d n b v m) : W.cell? ⟨g, 3, none⟩ = some (.pointer (some ⟨b, 0, none⟩)) := (Rec19.cel h 3 _ rfl).1
theorem GAt.c4 {W : World} {g d n b m : Nat} {v : Value} (h : GAt W g d n b v m) : W.cell? ⟨g, 4, none⟩ = some v := (Rec19.cel h 4 _ rfl).1
theorem GAt.c5 {W : World} {g d n b m : Nat} {v : Value} (h : GAt W g d n b v m) : W.cell? ⟨g, 5, none⟩ = some (.map (some m)) := (Rec19.cel h 5 _ rfl).1
theorem GAt.f {W : World} {g d n b m : Nat} {v : Value} (h : GAt W g d n b v m) (j : Nat) (hj : j < 6) : W.frozen? ⟨g, j, none⟩ = false := by
  have := (h.2.1 j hj).2
  rwa [Nat.zero_add] at this
theorem eqig_ptr (d : Nat) (a : Addr) (w : World) : (Op.equalIn (d + 1) 42 (.pointer (some a)) (.pointer (some a))).run Tryz.prog w = .ok true w := by
  simp [Op.equalIn, run_underlying Tryz.underlying42, run_sameAddr_same]
theorem eqlg_ptr (a : Addr) (w : World) : (binOp .eql 42 (.pointer (some a)) (.pointer (some a))).run Tryz.prog w = .ok (.bool true) w := by
  have h : (Op.equal 42 (.pointer (some a)) (.pointer (some a))).run Tryz.prog w = .ok true w := eqig_ptr 9999 a w
  simp only [binOp]
  simp [h]
theorem eqig_nil (d : Nat) (a : Addr) (w : World) : (Op.equalIn (d + 1) 42 (.pointer none) (.pointer (some a))).run Tryz.prog w = .ok false w := by
  simp [Op.equalIn, run_underlying Tryz.underlying42]
theorem eqlg_nil (a : Addr) (w : World) : (binOp .eql 42 (.pointer none) (.pointer (some a))).run Tryz.prog w = .ok (.bool false) w := by
  have h : (Op.equal 42 (.pointer none) (.pointer (some a))).run Tryz.prog w = .ok false w := eqig_nil 9999 a w
  simp only [binOp]
  simp [h]
set_option maxRecDepth 100000 in
theorem gmade_ok (W : World) (g d n b m : Nat) (v : Value) (h : GAt W g d n b v m) : Calls Tryz.prog 88 #[.pointer (some ⟨g, 0, none⟩)] W fun e w' => e = .returned (.bool true) ∧ w' = W := by
  have c0 := h.c0
  have hp := eqlg_ptr ⟨g, 0, none⟩
  clear h
  go_enter Tryz.func88, Tryz.ntmps88
  go_wp2_with fail
  go_ret
  exact ⟨rfl, rfl⟩
theorem gup_ok (w0 W : World) (d s m : Nat) (D : Dsk) (hS : St w0 W d s m D) (hf : D.free) : Calls Tryz.prog 102 #[.pointer (some ⟨d, 0, none⟩)] W fun e w' => e = .returned (.int .i64 0) ∧ Below W.heap.size W w' := by
  have RD : Hid (Calls Tryz.prog 45 #[.pointer (some ⟨d, 0, none⟩), .int .i64 0, .int .i64 0] W (ReadPost W 0 (fun j => D.sec (0 * 256 + j)))) := dread_ok W d s m 0 0 D 0 false hS.at' (hf.fuse W 0) hf.up (by omega)
  clear hS hf
  go_enter Tryz.func102, Tryz.ntmps102
  go_wp2_with (first
    | (go_at_call 45; refine RD.out.mono ?_; rintro e w1 ⟨rfl, _, hB⟩))
  go_ret
  exact ⟨rfl, hB⟩
theorem gready_ok (w0 W : World) (g d n b mm s m : Nat) (v : Value) (D : Dsk) (h : GAt W g d n b v mm) (hS : St w0 W d s m D) (hf : D.free) : Calls Tryz.prog 119 #[.pointer (some ⟨g, 0, none⟩)] W fun e w' => e = .returned (.int .i64 0) ∧ Below W.heap.size W w' := by
  have MD := hidIt (gmade_ok W g d n b mm v h)
  have UP := hidIt (gup_ok w0 W d s m D hS hf)
  have c1 := h.c1
  clear h hS hf
  go_enter Tryz.func119, Tryz.ntmps119
  go_wp2_with (first
    | (go_at_call 88; refine MD.out.mono ?_; rintro e w1 ⟨rfl, hw⟩; subst hw)
    | (go_at_call 102; refine UP.out.mono ?_; rintro e w1 ⟨rfl, hB⟩))
  go_ret
  exact ⟨rfl, hB⟩
theorem sectors_ok' (W : World) (d s m : Nat) (D : Dsk) (h : DiskAt W d s m D) : Calls Tryz.prog 103 #[.pointer (some ⟨d, 0, none⟩)] W fun e w' => e = .returned (.int .i64 (D.N : Int)) ∧ w' = W := by
  have MD := hidIt (made_ok W d s m D h)
  obtain ⟨c1, _⟩ := h.recd.cel 1 _ rfl
  clear h
  go_enter Tryz.func103, Tryz.ntmps103
  go_wp2_with (first
    | (go_at_call 87; refine MD.out.mono ?_; rintro e w1 ⟨rfl, hw⟩; subst hw))
  go_ret
  exact ⟨rfl, rfl⟩
/-- What fits answers. -/
def fitE (N : Nat) (n : Int) : Int := if n < 1 ∨ 512 < n ∨ (N : Int) < 104 + n * 4 then 5 else 0
theorem fits_any (w0 W : World) (d s m : Nat) (D : Dsk) (n : Int) (hS : St w0 W d s m D) (hf : D.free) : Calls Tryz.prog 59 #[.pointer (some ⟨d, 0, none⟩), .int .i64 n] W fun e w' => e = .returned (.int .i64 (fitE D.N n)) ∧ Below W.heap.size W w' := by
  have UP := hidIt (gup_ok w0 W d s m D hS hf)
  have SC : Hid (∀ u, Below W.heap.size W u → Calls Tryz.prog 103 #[.pointer (some ⟨d, 0, none⟩)] u fun e w' => e = .returned (.int .i64 (D.N : Int)) ∧ w' = u) := fun u hB => sectors_ok' u d s m D (hS.at'.below hB)
  clear hS hf
  have FE : Hid (fitE D.N n = fitE D.N n) := rfl
  by_cases a : n < 1
  · have e : fitE D.N n = 5 := if_pos (.inl a)
    rw [e]
    clear FE e
    go_enter Tryz.func59, Tryz.ntmps59
    go_wp2_with (first
      | (go_at_call 102; refine UP.out.mono ?_; rintro e w1 ⟨rfl, hB⟩; have BB := hidIt hB; clear hB))
    go_ret
    exact ⟨rfl, BB.out⟩
  · by_cases b : 512 < n
    · have e : fitE D.N n = 5 := if_pos (.inr (.inl b))
      rw [e]
      clear FE e
      have a' : (n < 1) = False := eq_false a
      clear a
      go_enter Tryz.func59, Tryz.ntmps59
      go_wp2_with (first
        | (go_at_call 102; refine UP.out.mono ?_; rintro e w1 ⟨rfl, hB⟩; have BB := hidIt hB; clear hB))
      go_ret
      exact ⟨rfl, BB.out⟩
    · have i1 : IntKind.i64.wrap (n * 4) = n * 4 := by rw [IntKind.wrap_i64]; omega
      have i2 : wrap64 (n * 4) = n * 4 := by unfold wrap64; omega
      have i3 : IntKind.i64.wrap (104 + n * 4) = 104 + n * 4 := by rw [IntKind.wrap_i64]; omega
      have i4 : wrap64 (104 + n * 4) = 104 + n * 4 := by unfold wrap64; omega
      have a' : (n < 1) = False := eq_false a
      have b' : (512 < n) = False := eq_false b
      by_cases c : (D.N : Int) < 104 + n * 4
      · have e : fitE D.N n = 5 := if_pos (.inr (.inr c))
        rw [e]
        have c' : ((D.N : Int) < 104 + n * 4) = True := eq_true c
        clear FE e a b c
        go_enter Tryz.func59, Tryz.ntmps59
        go_wp2_with (first
          | (go_at_call 102; refine UP.out.mono ?_; rintro e w1 ⟨rfl, hB⟩; have BB := hidIt hB; clear hB)
          | (go_at_call 103; refine (SC.out _ BB.out).mono ?_; rintro e w2 ⟨rfl, hw⟩; subst hw))
        go_ret
        exact ⟨rfl, BB.out⟩
      · have e : fitE D.N n = 0 := if_neg (fun q => by rcases q with q | q | q <;> omega)
        rw [e]
        have c' : ((D.N : Int) < 104 + n * 4) = False := eq_false c
        clear FE e a b c
        go_enter Tryz.func59, Tryz.ntmps59
        go_wp2_with (first
          | (go_at_call 102; refine UP.out.mono ?_; rintro e w1 ⟨rfl, hB⟩; have BB := hidIt hB; clear hB)
          | (go_at_call 103; refine (SC.out _ BB.out).mono ?_; rintro e w2 ⟨rfl, hw⟩; subst hw))
        go_ret
        exact ⟨rfl, BB.out⟩
/-- A map of refs. -/
abbrev OwnsR (W : World) (m n : Nat) (D : DataW Value) : Prop := W.ownsMap Tryz.prog 57 unitElem m n D
theorem own_sameR {W W' : World} {m n : Nat} {D : DataW Value} (h : OwnsR W m n D) (e : W'.heap[m]? = W.heap[m]?) : OwnsR W' m n D := by
  obtain ⟨es, c, hb, r⟩ := h
  exact ⟨es, c, e.trans hb, r⟩
theorem OwnsR.below {W W' : World} {m n : Nat} {D : DataW Value} (h : OwnsR W m n D) (hB : Below W.heap.size W W') : OwnsR W' m n D := own_sameR h (hB.block m h.lt)
theorem OwnsR.off {W W' : World} {bs : List Nat} {m n : Nat} {D : DataW Value} (h : OwnsR W m n D) (hB : Off bs W W') (hm : m ∉ bs) : OwnsR W' m n D := own_sameR h (hB.block m h.lt hm)
/-- The two cells of what is wanted. -/
def wC (v m : Value) : List Value := [v, m]
theorem zero_wants : (Tryz.prog.info? 69).bind (·.zero) = some (.agg (wC (.slice none 0 0) (.map none)).toArray) := by kernel_rfl
def NwPost (W : World) (e : Ending) (w' : World) : Prop := ∃ m, e = .returned (.agg (wC (.slice none 0 0) (.map (some m))).toArray) ∧ W.heap.size ≤ m ∧ OwnsR w' m 0 (.map []) ∧ Below W.heap.size W w'
theorem nowants_ok (W : World) : Calls Tryz.prog 106 #[] W (NwPost W) := by
  have hmm := fun w => run_makeMap (P := Tryz.prog) 67 w
  go_enter Tryz.func106, Tryz.ntmps106
  go_wp2_with (first
    | (refine wpList_alloc_rec rfl 69 rfl (wC (.slice none 0 0) (.map none)) W.heap.size rfl zero_wants ?_; intro W1 R1 B1 z1)
    | (refine wpList_build_to rfl 69 _ rfl (wC (.slice none 0 0) (.map (some (W.heap.size + 1)))).toArray (by kernel_rfl) ?_)
    | (refine wpList_store_rec rfl 69 (.tmp 0) (.tmp 2) rfl W.heap.size 0 _ (wC (.slice none 0 0) (.map (some (W.heap.size + 1)))) rfl rfl (R1.below ((Below.refl _ _).alloc (Nat.le_refl _) _)) rfl (by kernel_rfl) (by intro v hv; simp [wC] at hv; rcases hv with rfl | rfl <;> rfl) ?_; intro W3 R3 B3))
  have hl := R3.run_load 69 _ Tryz.underlying69 rfl (by kernel_rfl)
  have E2 : Below W.heap.size W (W1.alloc (.map #[] 0)) := B1.alloc (by omega) _
  refine bodyPost_ret (v := .agg (wC (.slice none 0 0) (.map (some (W.heap.size + 1)))).toArray) (by simp [results, Tryz.results106, asAddr, Act.put, hl]) rfl ⟨W.heap.size + 1, rfl, by omega, ?_, E2.trans (B3.below (Nat.le_refl _) E2.size)⟩
  have := World.ownsMap_made (H := Value) W1 Tryz.prog 57 unitElem
  rw [z1] at this
  exact own_sameR this (B3.block _ (by simp [z1]) (by omega))
theorem built_grid (d n b mm : Nat) : Tryz.prog.built 71 [(1, .pointer (some ⟨d, 0, none⟩)), (2, .int .i64 (n : Int)), (3, .pointer (some ⟨b, 0, none⟩)), (4, .agg (wC (.slice none 0 0) (.map (some mm))).toArray)] = some (gC none d n b (.slice none 0 0) mm).toArray := by kernel_rfl
/-- What build answers. -/
def BdPost (W : World) (d n b : Nat) (e : Ending) (w' : World) : Prop := ∃ g mm, e = .returned (.pointer (some ⟨g, 0, none⟩)) ∧ W.heap.size ≤ g ∧ W.heap.size ≤ mm ∧ g ≠ mm ∧ GAt w' g d n b (.slice none 0 0) mm ∧ w'.ownsMap Tryz.prog 57 (unitElem (H := Value)) mm 0 (.map []) ∧ Below W.heap.size W w'
set_option maxRecDepth 100000 in
theorem build_ok (W : World) (d n b : Nat) : Calls Tryz.prog 61 #[.pointer (some ⟨d, 0, none⟩), .int .i64 (n : Int), .pointer (some ⟨b, 0, none⟩)] W (BdPost W d n b) := by
  go_enter Tryz.func61, Tryz.ntmps61
  go_wp2_with (first
    | (go_at_call 106; refine (nowants_ok _).mono ?_; rintro e w1 ⟨mm, rfl, hm, hM, hB⟩; have M1 := hidIt hM; have B1 := hidIt (And.intro hm hB); clear hM hB hm)
    | (refine wpList_build_to rfl 71 #[(1, .tmp 8), (2, .tmp 9), (3, .tmp 10), (4, .tmp 11)] rfl (gC none d n b (.slice none 0 0) mm).toArray (by kernel_rfl) ?_)
    | (refine wpList_box_rec rfl 71 (.tmp 12) rfl (gC none d n b (.slice none 0 0) mm) rfl w1.heap.size rfl ?_; intro W2 R2 B2 z2
       have F := hidIt (And.intro R2 (And.intro B2 z2))
       have c0 : W2.cell? ⟨w1.heap.size, 0, none⟩ = some (.pointer none) := (R2.cel 0 _ rfl).1
       have f0 : W2.frozen? ⟨w1.heap.size, 0, none⟩ = false := (R2.cel 0 _ rfl).2
       clear R2 B2 z2))
  go_ret
  obtain ⟨R2, B2, z2⟩ := F.out
  have hs := B1.out.2.size
  have l := M1.out.lt
  refine ⟨w1.heap.size, mm, rfl, hs, B1.out.1, by omega, R2.put 0 _, ?_, ?_⟩
  · exact (OwnsR.below M1.out B2).setCell (by show mm ≠ w1.heap.size; omega) _
  · exact B1.out.2.trans ((B2.trans ((But.set _ _ _).below (Nat.le_refl _) (by omega))).mono hs)
end Go.Proofs.YtblphlcnbnklmaaGreatDoor
namespace Go.Proofs.YtblphlcnbnklmaaGreatDoor
open Go.RowKit Go.Maps
/-- A grid without refs that are wanted, on a disk without a fuse, made behind w0. -/
structure GNew (w0 W : World) (g d s m b mm : Nat) (D : Dsk) (n : Nat) (h : Nat → Nat) : Prop where
  st : St w0 W d s m D
  ga : GAt W g d n b (.slice none 0 0) mm
  sa : SAt W b n h
  ok : SOk n h
  wm : OwnsR W mm 0 (.map [])
  w0l : w0.heap.size ≤ g ∧ w0.heap.size ≤ b ∧ w0.heap.size ≤ mm
  ne : [g, d, s, m, b, mm].Nodup
def NewP (w0 W : World) (d s m : Nat) (D : Dsk) (n : Nat) (e : Ending) (w' : World) : Prop := ∃ g b mm, e = .returned (.tuple #[.pointer (some ⟨g, 0, none⟩), .int .i64 0]) ∧ GNew w0 w' g d s m b mm D n (iniH n) ∧ Below W.heap.size W w'
set_option maxRecDepth 100000 in
theorem gnew_ok (w0 W : World) (d s m : Nat) (D : Dsk) (n : Nat) (hS : St w0 W d s m D) (hf : D.free) (h1 : 1 ≤ n) (h2 : n ≤ 512) (h3 : 104 + 4 * n ≤ D.N) : Calls Tryz.prog 23 #[.pointer (some ⟨d, 0, none⟩), .int .i64 (n : Int)] W (NewP w0 W d s m D n) := by
  have FI : Hid (Calls Tryz.prog 59 #[.pointer (some ⟨d, 0, none⟩), .int .i64 (n : Int)] W fun e w' => e = .returned (.int .i64 0) ∧ Below W.heap.size W w') := by
    have := fits_any w0 W d s m D n hS hf
    rwa [show fitE D.N n = 0 from if_neg (fun q => by rcases q with q | q | q <;> omega)] at this
  have HS := hidIt hS
  have HN := hidIt (And.intro h1 h2)
  clear hS hf h1 h2 h3
  go_enter Tryz.func23, Tryz.ntmps23
  go_wp2_with (first
    | (go_at_call 59; refine FI.out.mono ?_; rintro e w1 ⟨rfl, hB⟩; have B1 := hidIt hB; clear hB)
    | (go_at_call 60; refine (fnew_ok w1 n HN.out.1 HN.out.2).mono ?_; rintro e w2 ⟨rfl, hA, hB⟩; have S2 := hidIt hA; have B2 := hidIt hB; clear hA hB)
    | (go_at_call 61; refine (build_ok w2 d n w1.heap.size).mono ?_; rintro e w3 ⟨g, mm, rfl, hg, hm, hne, hG, hM, hB⟩; have F3 := hidIt (And.intro hg (And.intro hm (And.intro hne (And.intro hG (And.intro hM hB))))); clear hg hm hne hG hM hB))
  go_ret2
  obtain ⟨hg, hm, hne, hG, hM, hB⟩ := F3.out
  have b1 := B1.out
  have b2 := B2.out
  have z1 := b1.size
  have z2 := b2.size
  have l1 := S2.out.l
  have S3 := ((HS.out.below b1).below b2).below hB
  have hs := HS.out.bel.size
  have q1 := HS.out.at'.dl
  have q2 := HS.out.at'.sl
  have q3 := HS.out.at'.ml
  have d1 := HS.out.at'.ds
  have d2 := HS.out.at'.dm
  have d3 := HS.out.at'.sm
  refine ⟨g, w1.heap.size, mm, rfl, ⟨S3, hG, S2.out.below hB, ini_sok n HN.out.1 HN.out.2, hM, ⟨by omega, by omega, by omega⟩, ?_⟩, b1.trans ((b2.trans (hB.mono z2)).mono z1)⟩
  simp only [List.nodup_cons, List.mem_cons, List.not_mem_nil, or_false, not_or, not_false_eq_true, List.nodup_nil, and_true]
  omega
end Go.Proofs.YtblphlcnbnklmaaGreatDoor
namespace Go.Proofs.YtblphlcnbnklmaaGreatDoor
open Go.RowKit Go.Maps
theorem DTab.belowI {W W' : World} (h : DTab W) (hB : Below W.heap.size W W') (_ : 0 < W.heap.size) : DTab W' := fun j hj => (hB.cell (p := ⟨1, j, none⟩) (World.block_lt_of_cell? W ⟨1, 0, none⟩ (h 0 (by omega)))).trans (h j hj)
/-- The block that is written. -/
def gB (kind x stamp : Int) (k : Nat) (r : Nat → Int) (n : Nat) (F : Nat → Int) : Blk := ⟨fun i => if i = 0 then kind else if i = 1 then x else stamp, k, r, n, F⟩
theorem gB_may {kind x stamp : Int} {k n : Nat} {r F : Nat → Int} (m : (gB kind x stamp k r n F).May) : (gB kind 1 stamp k r n F).May :=
  ⟨m.1, ⟨⟨by show (1 : Int) ≤ 1; omega, by show (1 : Int) ≤ 512; omega⟩, m.2.1.2⟩, m.2.2.1, m.2.2.2.1, m.2.2.2.2⟩
theorem place_okI (x : Int) (W : World) (h1 : 1 ≤ x) (h2 : x ≤ 512) : Calls Tryz.prog 124 #[.int .i64 x] W fun e w' => e = .returned (.int .i64 (104 + (x - 1) * 4)) ∧ w' = W := by
  have i1 : IntKind.i64.wrap (x - 1) = x - 1 := by rw [IntKind.wrap_i64]; omega
  have i2 : wrap64 (x - 1) = x - 1 := by unfold wrap64; omega
  have i3 : IntKind.i64.wrap ((x - 1) * 4) = (x - 1) * 4 := by rw [IntKind.wrap_i64]; omega
  have i4 : wrap64 ((x - 1) * 4) = (x - 1) * 4 := by unfold wrap64; omega
  have i5 : IntKind.i64.wrap (104 + (x - 1) * 4) = 104 + (x - 1) * 4 := by rw [IntKind.wrap_i64]; omega
  have i6 : wrap64 (104 + (x - 1) * 4) = 104 + (x - 1) * 4 := by unfold wrap64; omega
  clear h1 h2
  go_enter Tryz.func124, Tryz.ntmps124
  go_wp2_with fail
  go_ret
  exact ⟨rfl, rfl⟩
theorem ptr_one (p : Option Addr) : ∀ v ∈ [Value.pointer p], v.oneCell' = true := by
  intro v hv
  simp only [List.mem_cons, List.not_mem_nil, or_false] at hv
  subst hv
  rfl
/-- The disk behind a Write. -/
def wrD (D : Dsk) (i : Nat) (f : Nat → Int) : Dsk := (D.wrote (104 + i * 4) f 4).more
/-- What Write answers. -/
def WrPost (w0 W : World) (g d s m mm n i : Nat) (v : Value) (D : Dsk) (hh : Nat → Nat) (stamp : Int) (f : Nat → Int) (e : Ending) (w' : World) : Prop :=
  ∃ b' m', e = .returned (.tuple #[.agg (twoC ((i : Int) + 1) stamp).toArray, .int .i64 0]) ∧ GAt w' g d n b' v mm ∧ SAt w' b' n (acqH hh (some i)) ∧ St w0 w' d s m' (wrD D i f) ∧ W.heap.size ≤ b' ∧ (m' = m ∨ W.heap.size ≤ m') ∧ b' ≠ m' ∧ Off [g, d, s, m] W w'
theorem wr_places {w0 w6 : World} {d s m m' N : Nat} {D' : Dsk} (h5 : St w0 w6 d s m' D') (hm : m' ∈ [d, s, m] ∨ N ≤ m') : m' = m ∨ N ≤ m' := by
  have d2 := h5.at'.dm
  have d3 := h5.at'.sm
  simp only [List.mem_cons, List.not_mem_nil, or_false] at hm
  omega
theorem WAt.offI {W W' : World} {bs : List Nat} {b o : Nat} {p : Nat → Bool} (h : WAt W b o p) (hO : Off bs W W') (hn : b ∉ bs) : WAt W' b o p :=
  ⟨fun j hj => (hO.cell (p := ⟨b, o + j, none⟩) h.l hn).trans (h.c j hj), fun j hj => (hO.frozen (p := ⟨b, o + j, none⟩) h.l hn).trans (h.f j hj), Nat.lt_of_lt_of_le h.l hO.size⟩
theorem SAt.offI {W W' : World} {bs : List Nat} {b n : Nat} {h : Nat → Nat} (s : SAt W b n h) (hO : Off bs W W') (hn : b ∉ bs) : SAt W' b n h :=
  ⟨(hO.cell (p := ⟨b, 0, none⟩) s.l hn).trans s.c0, (hO.cell (p := ⟨b, 1, none⟩) s.l hn).trans s.c1, s.fw.offI hO hn, s.gw.offI hO hn⟩
theorem st_butI {w0 W W' : World} {d s m c : Nat} {D : Dsk} (h : St w0 W d s m D) (hB : But c W W') (hc : d ≠ c ∧ s ≠ c ∧ m ≠ c ∧ w0.heap.size ≤ c) : St w0 W' d s m D :=
  ⟨h.at'.off (Off.but (bs := [c]) hB (by simp)) (by simp; exact hc.1) (by simp; exact hc.2.1) (by simp; exact hc.2.2.1), h.hd, h.hs, h.hm, h.bel.trans (hB.below hc.2.2.2 h.bel.size)⟩
set_option maxRecDepth 100000 in
set_option maxHeartbeats 2000000 in
theorem gwrite_ok (w0 W : World) (g d s m b mm n i : Nat) (v : Value) (D : Dsk) (hh : Nat → Nat) (kind stamp : Int) (a bb : Option Addr) (k C nb Cb : Nat) (r F : Nat → Int)
    (hS : St w0 W d s m D) (hf : D.free) (hG : GAt W g d n b v mm) (hA : SAt W b n hh) (hO : SOk n hh) (hT : DTab W) (h0 : 0 < W.heap.size) (hl : low (fr hh) = some i) (hN : 104 + 4 * n ≤ D.N) (hg : g ≠ d ∧ g ≠ s ∧ g ≠ m ∧ w0.heap.size ≤ g)
    (hR : HArg W a k r) (hk : k ≤ C) (hBd : Arg W bb nb F) (hnb : nb ≤ Cb) (hM : (gB kind ((i : Int) + 1) stamp k r nb F).May) :
    Calls Tryz.prog 73 #[.pointer (some ⟨g, 0, none⟩), .int .i64 kind, .slice a k C, .slice bb nb Cb, .int .i64 stamp] W (WrPost w0 W g d s m mm n i v D hh stamp (gB kind ((i : Int) + 1) stamp k r nb F).img) := by
  have hin := low_free hO hl
  have HL : Hid (low (fr hh) = some i) := hl
  have HN : Hid (i < n ∧ n ≤ 512 ∧ 104 + 4 * n ≤ D.N) := ⟨hin.1, hO.n2, hN⟩
  have HS : Hid (St w0 W d s m D ∧ D.free ∧ g ≠ d ∧ g ≠ s ∧ g ≠ m ∧ w0.heap.size ≤ g) := ⟨hS, hf, hg⟩
  have HG := hidIt hG
  have HA := hidIt (And.intro hA hO)
  have HT := hidIt (And.intro hT h0)
  have HB : Hid (∀ y, BlkAt W (gB kind y stamp k r nb F) a C bb Cb) := fun y => ⟨hR, hk, hBd, hnb⟩
  have HM := hidIt hM
  have HX : Hid (((i : Int) + 1) = (i : Int) + 1) := rfl
  clear hS hf hG hA hO hT h0 hl hN hg hR hk hBd hnb hM hin
  unfold WrPost
  generalize hx : ((i : Int) + 1) = x at HM HX ⊢
  have HX' : Hid (x = (i : Int) + 1) := hx.symm
  have IM := hidIt (fun (j : Nat) (hj : j < 1024) => (gB kind x stamp k r nb F).img_byte (HB.out x).byt j hj)
  clear HX
  have AC : Hid (∀ u q, SAt u q n hh → DTab u → Calls Tryz.prog 121 #[.pointer (some ⟨q, 0, none⟩)] u fun e w' => e = .returned (.tuple #[.int .i64 x, .int .i64 0]) ∧ SAt w' q n (acqH hh (some i)) ∧ But q u w') := fun u q hq hT => by
    have := acquire_ok u q n hh hq HA.out.2 hT
    rw [HL.out] at this
    unfold acqV at this
    simp only [hx] at this
    exact this
  clear hx
  have T1 : Hid True := trivial
  have T2 : Hid True := trivial
  have L1 : Hid True := trivial
  go_enter Tryz.func73, Tryz.ntmps73
  go_wp2_with (first
    | (have _q := T1; clear T1; refine wpList_alloc_rec rfl 57 rfl (twoC 0 0) W.heap.size rfl zero_ref ?_; intro W1 R1 B1 z1; have E1 := hidIt B1; have R11 := hidIt R1; clear R1 B1 z1)
    | (go_at_call 119; refine (gready_ok w0 W1 g d n b mm s m v D (HG.out.below E1.out) (HS.out.1.below E1.out) HS.out.2.1).mono ?_; rintro e w2 ⟨rfl, hB⟩; have E2 := hidIt (below_sh (Nat.le_refl _) E1.out hB); have R12 := hidIt (R11.out.below hB); clear hB E1 R11)
    | (refine wpList_build_to rfl 57 _ rfl (twoC 1 stamp).toArray (by kernel_rfl) ?_)
    | (refine wpList_build_to rfl 107 _ rfl (blkC (gB kind 1 stamp k r nb F) a C bb Cb).toArray (by kernel_rfl) ?_)
    | (have _q := E2; have _p := T2; clear T2 _p; refine wpList_alloc_rec rfl 107 rfl (blkC blk0 none 0 none 0) w2.heap.size rfl zero_blk ?_; intro W3 R3 B3 z3; have E3 := hidIt (below_sh (Nat.le_refl _) E2.out B3); have R13 := hidIt (R12.out.below B3); have Z3 : Hid (W.heap.size < w2.heap.size) := (R12.out.2.2); clear B3 E2 R12)
    | (refine wpList_store_rec rfl 107 (.tmp 13) (.tmp 31) rfl w2.heap.size 0 _ (blkC (gB kind 1 stamp k r nb F) a C bb Cb) rfl rfl R3 rfl (by kernel_rfl) (blkC_one _ _ _ _ _) ?_; intro W4 R4 B4
       have E4 := hidIt (E3.out.trans (B4.below (by have := Z3.out; omega) E3.out.size)); have R14 := hidIt (R13.out.but B4 (by have := Z3.out; omega)); have R24 := hidIt R4; clear R3 R4 B4 z3 E3 R13)
    | (have _q := R24; have _p := L1; clear L1 _p; refine wpList_load_rec rfl 107 (.tmp 13) rfl w2.heap.size 0 (blkC (gB kind 1 stamp k r nb F) a C bb Cb) rfl _ Tryz.underlying107 rfl (by kernel_rfl) R24.out ?_)
    | (go_at_call 97; refine (check_any (gB kind 1 stamp k r nb F) a bb C Cb _ ((HB.out 1).below E4.out).refs).mono ?_; rintro e w5 ⟨rfl, hB⟩; rw [show chkE (gB kind 1 stamp k r nb F) = 0 from if_pos (gB_may HM.out)]
       have E5 := hidIt (below_sh (Nat.le_refl _) E4.out hB); have R15 := hidIt (R14.out.below hB); have R25 := hidIt (R24.out.below hB)
       have c3 := (HG.out.below E5.out).c3; clear hB E4 R14 R24)
    | (go_at_call 120; refine (clone_ok w5 b n hh (HA.out.1.below E5.out)).mono ?_; rintro e w6 ⟨rfl, hq, hB⟩; have E6 := hidIt (below_sh (Nat.le_refl _) E5.out hB); have R16 := hidIt (R15.out.below hB); have R26 := hidIt (R25.out.below hB); have S6 := hidIt hq; have Z6 : Hid (w2.heap.size < w5.heap.size) := R25.out.2.2; clear hB hq c3 R15 R25)
    | (go_at_call 121; refine (AC.out w6 w5.heap.size S6.out (HT.out.1.belowI E6.out HT.out.2)).mono ?_; rintro e w7 ⟨rfl, hq, hB⟩; have E7 := hidIt (E6.out.trans (hB.below E5.out.size E6.out.size)); have R17 := hidIt (R16.out.but hB (by have := Z3.out; have := Z6.out; omega)); have R27 := hidIt (R26.out.but hB (by have := Z6.out; omega)); have S7 := hidIt hq; clear hB hq R16 R26 E6 S6)
    | (refine wpList_put_rec rfl 3 (.tmp 54) (.tmp 52) rfl w2.heap.size 1 (blkC (gB kind 1 stamp k r nb F) a C bb Cb) [.int .i64 x] (blkC (gB kind x stamp k r nb F) a C bb Cb) _ rfl rfl rfl R27.out (by show 1 + 1 ≤ 5; omega) rfl (by kernel_rfl) (int_one x) ?_; intro W8 R8 B8 z8
       have E8 := hidIt (E7.out.trans (B8.below (by have := Z3.out; omega) E7.out.size)); have R18 := hidIt (R17.out.but B8 (by have := Z3.out; omega)); have R28 := hidIt R8; have S8 := hidIt (S7.out.but B8 (by have := Z6.out; omega)); clear R8 B8 z8 E7 R17 R27 S7)
    | (have _q := R28; refine wpList_load_rec rfl 107 (.tmp 13) rfl w2.heap.size 0 (blkC (gB kind x stamp k r nb F) a C bb Cb) rfl _ Tryz.underlying107 rfl (by kernel_rfl) R28.out ?_; clear _q)
    | (go_at_call 122; refine (bytes_ok (gB kind x stamp k r nb F) a bb C Cb _ ((HB.out x).below E8.out) HM.out).mono ?_; rintro e w9 ⟨y, rfl, hy, hI, hB⟩
       have E9 := hidIt (below_sh (Nat.le_refl _) E8.out hB); have R19' := hidIt (R18.out.below hB); have R29 := hidIt (R28.out.below hB); have S9 := hidIt (S8.out.below hB); have Y9 := hidIt (And.intro hy hI); have Z9 : Hid (W8.heap.size ≤ w9.heap.size ∧ w5.heap.size < W8.heap.size) := ⟨hB.size, S8.out.l⟩; clear hB hy hI E8 R18 R28 S8))
  have c1 := (HG.out.below E9.out).c1
  refine wp_region_noPanic ?_
  refine wp_region_held_drew (S := fun W' => W'.cell? ⟨g, 1, none⟩ = some (.pointer (some ⟨d, 0, none⟩))) (by kernel_rfl) ?_ (fun hHeld => ?_)
  · exact c1
  refine take_at (i := 0) (v := ?_) (some 64) rfl rfl (by kernel_rfl) (by kernel_rfl) (by kernel_rfl) (fun _ _ _ h => h) (Or.inl ⟨by rfl, ?_⟩) (by assumption) ?_
  rotate_left
  · (intro w hSw; (try dsimp only at hSw); go_simp; try with_reducible rfl)
  simp only [Act.put, List.setIfInBounds_toArray, List.set_cons_zero, List.set_cons_succ]
  refine take_at (i := 1) (v := ?_) (some 65) rfl rfl (by kernel_rfl) (by kernel_rfl) (by kernel_rfl) (fun _ _ _ h => h) (Or.inl ⟨by rfl, ?_⟩) (by assumption) ?_
  rotate_left
  · (intro w hSw; (try dsimp only at hSw); go_simp; try with_reducible rfl)
  simp only [Act.put, List.setIfInBounds_toArray, List.set_cons_zero, List.set_cons_succ]
  refine take_at (i := 2) (v := ?_) (some 66) rfl rfl (by kernel_rfl) (by kernel_rfl) (by kernel_rfl) (fun _ _ _ h => h) (Or.inl ⟨by rfl, ?_⟩) (by assumption) ?_
  rotate_left
  · (intro w hSw; (try dsimp only at hSw); go_simp; try with_reducible rfl)
  simp only [Act.put, List.setIfInBounds_toArray, List.set_cons_zero, List.set_cons_succ]
  refine take_at (i := 3) (v := ?_) (some 67) rfl rfl (by kernel_rfl) (by kernel_rfl) (by kernel_rfl) (fun _ _ _ h => h) (Or.inl ⟨by rfl, ?_⟩) (by assumption) ?_
  rotate_left
  · (intro w hSw; (try dsimp only at hSw); go_simp; try with_reducible rfl)
  simp only [Act.put, List.setIfInBounds_toArray, List.set_cons_zero, List.set_cons_succ]
  refine take_at (i := 4) (v := ?_) (some 68) rfl rfl (by kernel_rfl) (by kernel_rfl) (by kernel_rfl) (fun _ _ _ h => h) (Or.inl ⟨by rfl, ?_⟩) (by assumption) ?_
  rotate_left
  · (intro w hSw; (try dsimp only at hSw); go_simp; try with_reducible rfl)
  simp only [Act.put, List.setIfInBounds_toArray, List.set_cons_zero, List.set_cons_succ]
  refine take_at (i := 6) (v := ?_) (some 70) rfl rfl (by kernel_rfl) (by kernel_rfl) (by kernel_rfl) (fun _ _ _ h => h) (Or.inl ⟨by rfl, ?_⟩) (by assumption) ?_
  rotate_left
  · (intro w hSw; (try dsimp only at hSw); go_simp; try with_reducible rfl)
  simp only [Act.put, List.setIfInBounds_toArray, List.set_cons_zero, List.set_cons_succ]
  refine call_at (i := 5) (some 69) 124 _ _ rfl rfl rfl (by rfl) (by kernel_rfl) #[.int .i64 x] rfl Tryz.func124 (by kernel_rfl) (by kernel_rfl) ?_
  refine (place_okI x _ (by have := HX'.out; omega) (by have := HX'.out; have := HN.out; omega)).mono ?_
  rintro e wp ⟨rfl, hwp⟩
  subst hwp
  refine ⟨_, rfl, by assumption, fun hHeld => ?_⟩
  simp only [Act.put, List.setIfInBounds_toArray, List.set_cons_zero, List.set_cons_succ]
  have E10 := hidIt (E9.out.drew)
  have Y10 := hidIt (And.intro Y9.out.1 (Y9.out.2.below (Below.refl _ _).drew))
  have S10 := hidIt (HS.out.1.below E10.out)
  refine call_at (i := 7) (some 71) 123 _ _ rfl rfl rfl (by rfl) (by kernel_rfl) #[.pointer (some ⟨d, 0, none⟩), .int .i64 (104 + (x - 1) * 4), .slice (some ⟨y, 0, none⟩) 1024 1024] rfl Tryz.func123 (by kernel_rfl) (by kernel_rfl) ?_
  refine (st_write w0 _ d s m (104 + i * 4) y 0 4 1024 1024 _ D _ S10.out HS.out.2.1 (by have := HX'.out; omega) rfl (Y10.out.2.lies IM.out) (by omega) (by omega) (by omega) (by have := HN.out; omega) (by have := HS.out.1.at'.sl; have := HS.out.1.at'.ml; have := Y9.out.1; have := Z9.out; have := Z6.out; have := Z3.out; omega)).mono ?_
  rintro e w11 ⟨rfl, m', hS11, hm11, hO11⟩
  have lw : W.heap.size ≤ w9.heap.size := E9.out.size
  have G10 := (HG.out.below E9.out).below (Below.refl _ _).drew
  have gn : g ∉ [d, s, m] := by have := HS.out.2.2; simp; omega
  have G11 := hidIt (G10.off hO11 gn)
  refine ⟨_, rfl, G11.out.c1, fun hHeld => ?_⟩
  simp only [Act.put, List.setIfInBounds_toArray, List.set_cons_zero, List.set_cons_succ]
  refine take_at (i := 8) (v := ?_) (some 19) rfl rfl (by kernel_rfl) (by kernel_rfl) (by kernel_rfl) (fun _ _ _ h => h) (Or.inl ⟨by rfl, ?_⟩) (by assumption) ?_
  rotate_left
  · (intro w hSw; (try dsimp only at hSw); go_simp; try with_reducible rfl)
  simp only [Act.put, List.setIfInBounds_toArray, List.set_cons_zero, List.set_cons_succ]
  refine wpAnyH_done (by kernel_rfl) ?_ _
  refine NoPanic.normal ?_
  have q1 := HS.out.1.at'.dl
  have q2 := HS.out.1.at'.sl
  have q3 := HS.out.1.at'.ml
  have q4 := HG.out.2.2
  have O10 : Off [g, d, s, m] W w9.drew := Off.of E10.out
  have O11 := hidIt (O10.trans (hO11.mono (fun z hz => by simp only [List.mem_cons, List.not_mem_nil, or_false] at hz ⊢; omega)))
  have ny : ∀ z, W.heap.size ≤ z → z ∉ [d, s, m] := fun z hz => by simp only [List.mem_cons, List.not_mem_nil, or_false]; omega
  have R111 := hidIt (((R19'.out.below (Below.refl _ _).drew)).off hO11 (ny _ (Nat.le_refl _)))
  have R211 := hidIt (((R29.out.below (Below.refl _ _).drew)).off hO11 (ny _ (by have := Z3.out; omega)))
  have S11 := hidIt ((S9.out.below (Below.refl _ _).drew).offI hO11 (ny _ (by have := Z3.out; have := Z6.out; omega)))
  have D11 : Hid (St w0 w11 d s m' (wrD D i (gB kind x stamp k r nb F).img) ∧ (m' = m ∨ w9.heap.size ≤ m')) := ⟨hS11, wr_places hS11 hm11⟩
  clear hS11 hm11 hO11 G10 gn O10 ny c1 hHeld
  go_wp2_with (first
    | (refine wpList_put_rec rfl 65 (.tmp 79) (.tmp 77) rfl g 3 (gC (some ⟨g, 0, none⟩) d n b v mm) [.pointer (some ⟨w5.heap.size, 0, none⟩)] (gC (some ⟨g, 0, none⟩) d n w5.heap.size v mm) _ rfl rfl rfl G11.out (by show 3 + 1 ≤ 6; omega) rfl (by kernel_rfl) (ptr_one _) ?_; intro W12 R12 B12 z12
       have G12 := hidIt R12; have B12' := hidIt B12; have R112 := hidIt (R111.out.but B12 (by omega)); have R212 := hidIt (R211.out.but B12 (by have := Z3.out; omega)); clear R12 B12 z12 R111 R211 G11)
    | (refine wpList_load_mid (P := Tryz.prog) rfl 57 (.tmp 80) rfl w2.heap.size 1 rfl (twoC x stamp) _ (two_range (R212.out.cel 1 _ rfl).1 (R212.out.cel 2 _ rfl).1) Tryz.underlying57 rfl (by kernel_rfl) ?_)
    | (refine wpList_store_rec rfl 57 (.tmp 10) (.tmp 81) rfl W.heap.size 0 (twoC 0 0) (twoC x stamp) rfl rfl R112.out rfl (by kernel_rfl) (twoC_one _ _) ?_; intro W13 R13 B13))
  have hl := R13.run_load 57 _ Tryz.underlying57 rfl (by kernel_rfl)
  have hgs := HS.out.2.2
  have z2 := Z3.out
  have z5 := Z6.out
  have S12 := S11.out.but B12'.out (by omega)
  have S13 := S12.but B13 (by omega)
  have M12 : St w0 W12 d s m' (wrD D i (gB kind x stamp k r nb F).img) := st_butI D11.out.1 B12'.out ⟨by omega, by omega, by have := D11.out.2; omega, hgs.2.2.2⟩
  have M13 : St w0 W13 d s m' (wrD D i (gB kind x stamp k r nb F).img) := st_butI M12 B13 ⟨by omega, by omega, by have := D11.out.2; have := Z9.out; omega, HS.out.1.bel.size⟩
  refine bodyPost_ret (v := .tuple #[.agg (twoC x stamp).toArray, .int .i64 0]) (by simp [results, Tryz.results73, asAddr, hl]) rfl ⟨w5.heap.size, m', rfl, ?_, S13, M13, by omega, by have := D11.out.2; omega, by have := D11.out.2; have := Z9.out; omega, ?_⟩
  · exact Rec19.but G12.out B13 (by omega)
  · exact (O11.out.trans (Off.but B12'.out (by simp))).far (Off.but (bs := [W.heap.size]) B13 (by simp)) (by simp)
end Go.Proofs.YtblphlcnbnklmaaGreatDoor
namespace Go.Proofs.YtblphlcnbnklmaaGreatDoor
open Go.RowKit Go.Maps
/-- What lies on the disk at block i. -/
def blF (D : Dsk) (i : Nat) (j : Nat) : Int := D.sec ((104 + i * 4) * 256 + j)
theorem blF_byte {W : World} {d s m : Nat} {D : Dsk} (h : DiskAt W d s m D) (i : Nat) (hi : 104 + i * 4 + 4 ≤ D.N) (j : Nat) (hj : j < 1024) : 0 ≤ blF D i j ∧ blF D i j < 256 := h.sb _ (by omega)
/-- What a read of a disk's four sectors answers. -/
def Rd4 (W : World) (F : Nat → Int) (e : Ending) (w' : World) : Prop := e = .returned (.tuple #[.slice (some ⟨W.heap.size, 0, none⟩) 1024 1024, .int .i64 0]) ∧ IRow w' W.heap.size .u8 1024 F ∧ Below W.heap.size W w'
theorem rd4_ok (w0 W : World) (d s m i : Nat) (D : Dsk) (x : Int) (hS : St w0 W d s m D) (hf : D.free) (hx : x = (104 + i * 4 : Nat)) (hi : 104 + i * 4 + 4 ≤ D.N) : Calls Tryz.prog 45 #[.pointer (some ⟨d, 0, none⟩), .int .i64 x, .int .i64 4] W (Rd4 W (blF D i)) := by
  subst hx
  exact dread_ok W d s m (104 + i * 4) 4 D 0 false hS.at' (hf.fuse W 0) hf.up (by omega)
theorem neq_other (p q p' q' : Int) (h : ¬ (p = p' ∧ q = q')) (w : World) : (binOp .neq 57 (.agg (twoC p q).toArray) (.agg (twoC p' q').toArray)).run Tryz.prog w = .ok (.bool true) w := by
  rw [neq_two]
  simp [h]
/-- A difference of structs behind a guard. -/
theorem wpList_neq_wI {ops : Array Oper} {rest : List Oper} {op : Oper} {a : Act} {w : World} {Q : Exit → Act → World → Prop} (hw : Region.wanted op (yielded ops a.tmps) = true) (t t' : TypeId) (x y : Operand) (ho : op.op = .binOp .neq t x y t')
    (X Y : Array Value) (b : Bool) (hx : a.eval x = .agg X) (hy : a.eval y = .agg Y) (he : ∀ w, (binOp .neq t (.agg X) (.agg Y)).run Tryz.prog w = .ok (.bool b) w) (hg : Tryz.prog.eqGuardType Tryz.prog.depth t = false)
    (hK : wpList Tryz.prog ops Q rest (a.put op.dst (.bool b)) w) : wpList Tryz.prog ops Q (op :: rest) a w := by
  refine wpList_step fun K hK' => ?_
  rw [if_pos hw]
  unfold Oper.wp execOp
  simp only [ho, hx, hy, Sem.run_bind, run_eqGuard_agg _ _ _ _ _ _ _ hg, Result.andThen_ok, he]
  exact hK' _ _ hK
/-- What load answers of what is not there. -/
def LdNo (W : World) (e : Ending) (w' : World) : Prop := e = .returned (.tuple #[blkV blk0 none 0 none 0, .slice none 0 0, .int .i64 13]) ∧ Below W.heap.size W w'
/-- What it answers of what is there. -/
def LdOk (W : World) (s : Blk) (F : Nat → Int) (e : Ending) (w' : World) : Prop := ∃ g1 g2 y, e = .returned (.tuple #[blkV s (some ⟨g1, 0, none⟩) s.k (some ⟨g2, 0, none⟩) s.n, .slice (some ⟨y, 0, none⟩) 1024 1024, .int .i64 0]) ∧ TbGot W w' s g1 g2 ∧ W.heap.size ≤ y ∧ IRow w' y .u8 1024 F ∧ Below W.heap.size W w'
set_option maxRecDepth 100000 in
set_option maxHeartbeats 2000000 in
theorem gload_not (w0 W : World) (g d s m b mm n i : Nat) (v : Value) (D : Dsk) (p q : Int) (hS : St w0 W d s m D) (hf : D.free) (hG : GAt W g d n b v mm) (hN : 104 + 4 * n ≤ D.N) (hi : i < n) (hn : n ≤ 512) (hp : p = (i : Int) + 1) (hw : ¬ Whole (blF D i)) :
    Calls Tryz.prog 154 #[.pointer (some ⟨g, 0, none⟩), .agg (twoC p q).toArray] W (LdNo W) := by
  have HS := hidIt (And.intro hS hf)
  have HG := hidIt hG
  have HI := hidIt (And.intro hN (And.intro hi (And.intro hn hp)))
  have FB := hidIt (fun (j : Nat) (hj : j < 1024) => blF_byte hS.at' i (by omega) j hj)
  obtain ⟨c, hc0, hc⟩ : ∃ c : Int, c ≠ 0 ∧ ∀ (u : World) (y : Nat), Lies u y 0 1024 (blF D i) → Calls Tryz.prog 46 #[.slice (some ⟨y, 0, none⟩) 1024 1024] u (RdNo u c) := by
    rcases rdE_not hw with ⟨h1, _⟩ | ⟨h1, h2, _⟩
    · exact ⟨12, by omega, fun u y hL => read_seal y 0 1024 _ u hL (Nat.le_refl _) h1⟩
    · refine ⟨4, by omega, fun u y hL => ?_⟩
      by_cases mo : BlkOk (behO (blF D i))
      · exact read_may y 0 1024 _ u hL (Nat.le_refl _) h1 mo (fun q => h2 ⟨mo, q⟩)
      · exact read_not y 0 1024 _ u hL (Nat.le_refl _) h1 mo
  have RE := hidIt hc
  have c0 : (c = 0) = False := eq_false hc0
  clear hw hc hc0
  clear hS hf hG hN hi hn hp
  have T1 : Hid True := trivial
  go_enter Tryz.func154, Tryz.ntmps154
  go_wp2_with (first
    | (refine wpList_box_rec rfl 57 (.tmp 1) rfl (twoC p q) rfl W.heap.size rfl ?_; intro W1 R1 B1 z1)
    | (have _q := T1; clear T1; refine wpList_alloc_rec rfl 107 rfl (blkC blk0 none 0 none 0) (W.heap.size + 1) z1 zero_blk ?_; intro W2 R2 B2 z2
       have E2 := hidIt (B1.trans (B2.mono (by omega))); have P2 := hidIt (R1.below (by rw [z1]; exact B2)); have Q2 := hidIt R2; have Z2 := hidIt z2; clear R1 B1 z1 R2 B2 z2))
  have c1 := (HG.out.below E2.out).c1
  have c2 := (P2.out.cel 0 (.int .i64 p) rfl).1
  refine wp_region_noPanic ?_
  refine wp_region_held_drew (S := fun W' => W'.cell? ⟨g, 1, none⟩ = some (.pointer (some ⟨d, 0, none⟩)) ∧ W'.cell? ⟨W.heap.size, 0, none⟩ = some (.int .i64 p)) (by kernel_rfl) ?_ (fun hHeld => ?_)
  · exact ⟨c1, c2⟩
  refine take_at (i := 0) (v := ?_) (some 11) rfl rfl (by kernel_rfl) (by kernel_rfl) (by kernel_rfl) (fun _ _ _ h => h) (Or.inl ⟨by rfl, ?_⟩) (by assumption) ?_
  rotate_left
  · (intro w hSw; (try dsimp only at hSw); go_simp; try with_reducible rfl)
  simp only [Act.put, List.setIfInBounds_toArray, List.set_cons_zero, List.set_cons_succ]
  refine take_at (i := 1) (v := ?_) (some 12) rfl rfl (by kernel_rfl) (by kernel_rfl) (by kernel_rfl) (fun _ _ _ h => h) (Or.inl ⟨by rfl, ?_⟩) (by assumption) ?_
  rotate_left
  · (intro w hSw; (try dsimp only at hSw); go_simp; try with_reducible rfl)
  simp only [Act.put, List.setIfInBounds_toArray, List.set_cons_zero, List.set_cons_succ]
  refine take_at (i := 2) (v := ?_) (some 13) rfl rfl (by kernel_rfl) (by kernel_rfl) (by kernel_rfl) (fun _ _ _ h => h) (Or.inl ⟨by rfl, ?_⟩) (by assumption) ?_
  rotate_left
  · (intro w hSw; (try dsimp only at hSw); go_simp; try with_reducible rfl)
  simp only [Act.put, List.setIfInBounds_toArray, List.set_cons_zero, List.set_cons_succ]
  refine take_at (i := 3) (v := ?_) (some 14) rfl rfl (by kernel_rfl) (by kernel_rfl) (by kernel_rfl) (fun _ _ _ h => h) (Or.inl ⟨by rfl, ?_⟩) (by assumption) ?_
  rotate_left
  · (intro w hSw; (try dsimp only at hSw); go_simp; try with_reducible rfl)
  simp only [Act.put, List.setIfInBounds_toArray, List.set_cons_zero, List.set_cons_succ]
  refine take_at (i := 4) (v := ?_) (some 15) rfl rfl (by kernel_rfl) (by kernel_rfl) (by kernel_rfl) (fun _ _ _ h => h) (Or.inl ⟨by rfl, ?_⟩) (by assumption) ?_
  rotate_left
  · (intro w hSw; (try dsimp only at hSw); go_simp; try with_reducible rfl)
  simp only [Act.put, List.setIfInBounds_toArray, List.set_cons_zero, List.set_cons_succ]
  refine take_at (i := 5) (v := ?_) (some 16) rfl rfl (by kernel_rfl) (by kernel_rfl) (by kernel_rfl) (fun _ _ _ h => h) (Or.inl ⟨by rfl, ?_⟩) (by assumption) ?_
  rotate_left
  · (intro w hSw; (try dsimp only at hSw); go_simp; try with_reducible rfl)
  simp only [Act.put, List.setIfInBounds_toArray, List.set_cons_zero, List.set_cons_succ]
  refine call_at (i := 6) (some 17) 124 _ _ rfl rfl rfl (by rfl) (by kernel_rfl) #[.int .i64 p] rfl Tryz.func124 (by kernel_rfl) (by kernel_rfl) ?_
  refine (place_okI p _ (by have := HI.out; omega) (by have := HI.out; omega)).mono ?_
  rintro e wp ⟨rfl, hwp⟩
  subst hwp
  refine ⟨_, rfl, by assumption, fun hHeld => ?_⟩
  simp only [Act.put, List.setIfInBounds_toArray, List.set_cons_zero, List.set_cons_succ]
  have E3 := hidIt (E2.out.drew)
  refine call_at (i := 7) (some 18) 45 _ _ rfl rfl rfl (by rfl) (by kernel_rfl) #[.pointer (some ⟨d, 0, none⟩), .int .i64 (104 + (p - 1) * 4), .int .i64 4] rfl Tryz.func45 (by kernel_rfl) (by kernel_rfl) ?_
  refine (rd4_ok w0 _ d s m i D _ (HS.out.1.below E3.out) HS.out.2 (by have := HI.out; omega) (by have := HI.out; omega)).mono ?_
  rintro e w3 ⟨rfl, hI, hB⟩
  have E4 := hidIt (below_sh (Nat.le_refl _) E3.out hB)
  have P4 := hidIt (P2.out.below ((Below.refl _ _).drew.trans hB))
  have Q4 := hidIt (Q2.out.below ((Below.refl _ _).drew.trans hB))
  have I4 := hidIt hI
  have Z4 : Hid (W.heap.size + 2 = W2.heap.size ∧ W2.heap.size < w3.heap.size) := ⟨Z2.out.symm, hI.2.2⟩
  refine ⟨_, rfl, ⟨(HG.out.below E4.out).c1, (P4.out.cel 0 (.int .i64 p) rfl).1⟩, fun hHeld => ?_⟩
  simp only [Act.put, List.setIfInBounds_toArray, List.set_cons_zero, List.set_cons_succ]
  refine take_at (i := 8) (v := ?_) (some 10) rfl rfl (by kernel_rfl) (by kernel_rfl) (by kernel_rfl) (fun _ _ _ h => h) (Or.inl ⟨by rfl, ?_⟩) (by assumption) ?_
  rotate_left
  · (intro w hSw; (try dsimp only at hSw); go_simp; try with_reducible rfl)
  simp only [Act.put, List.setIfInBounds_toArray, List.set_cons_zero, List.set_cons_succ]
  refine take_at (i := 9) (v := ?_) (some 19) rfl rfl (by kernel_rfl) (by kernel_rfl) (by kernel_rfl) (fun _ _ _ h => h) (Or.inl ⟨by rfl, ?_⟩) (by assumption) ?_
  rotate_left
  · (intro w hSw; (try dsimp only at hSw); go_simp; try with_reducible rfl)
  simp only [Act.put, List.setIfInBounds_toArray, List.set_cons_zero, List.set_cons_succ]
  refine take_at (i := 10) (v := ?_) (some 20) rfl rfl (by kernel_rfl) (by kernel_rfl) (by kernel_rfl) (fun _ _ _ h => h) (Or.inl ⟨by rfl, ?_⟩) (by assumption) ?_
  rotate_left
  · (intro w hSw; (try dsimp only at hSw); go_simp; try with_reducible rfl)
  simp only [Act.put, List.setIfInBounds_toArray, List.set_cons_zero, List.set_cons_succ]
  refine take_at (i := 11) (v := ?_) (some 7) rfl rfl (by kernel_rfl) (by kernel_rfl) (by kernel_rfl) (fun _ _ _ h => h) (Or.inl ⟨by rfl, ?_⟩) (by assumption) ?_
  rotate_left
  · (intro w hSw; (try dsimp only at hSw); go_simp; try with_reducible rfl)
  simp only [Act.put, List.setIfInBounds_toArray, List.set_cons_zero, List.set_cons_succ]
  refine take_at (i := 12) (v := ?_) (some 8) rfl rfl (by kernel_rfl) (by kernel_rfl) (by kernel_rfl) (fun _ _ _ h => h) (Or.inl ⟨by rfl, ?_⟩) (by assumption) ?_
  rotate_left
  · (intro w hSw; (try dsimp only at hSw); go_simp; try with_reducible rfl)
  simp only [Act.put, List.setIfInBounds_toArray, List.set_cons_zero, List.set_cons_succ]
  refine wpAnyH_done (by kernel_rfl) ?_ _
  refine NoPanic.normal ?_
  have hz : (W2.drew).heap.size = W2.heap.size := rfl
  rw [hz]
  clear c1 c2 hHeld hI hB hz E3 P2 Q2 E2
  have K0 : Hid True := trivial
  go_wp2_with (first
    | (go_at_call 46; refine (RE.out _ _ (I4.out.lies FB.out)).mono ?_; rintro e w5 ⟨rfl, hB⟩; unfold blkV; have E5 := hidIt (below_sh (Nat.le_refl _) E4.out hB); have Q5 := hidIt (Q4.out.below hB); have P5 := hidIt (P4.out.below hB); have Z5 : Hid (w3.heap.size ≤ w5.heap.size) := hB.size; clear hB E4 Q4 P4)
    | (have _q := K0; clear K0; refine wpList_alloc_rec rfl 107 rfl (blkC blk0 none 0 none 0) w5.heap.size rfl zero_blk ?_; intro W6 R6 B6 z6; have E6 := hidIt (below_sh (Nat.le_refl _) E5.out B6); have Q6 := hidIt (Q5.out.below B6); have P6 := hidIt (P5.out.below B6); clear B6 E5 Q5 P5)
    | (refine wpList_store_rec rfl 107 (.tmp 9) (.tmp 28) rfl w5.heap.size 0 _ (blkC blk0 none 0 none 0) rfl rfl R6 rfl (by kernel_rfl) (blkC_one _ _ _ _ _) ?_; intro W7 R7 B7; have E7 := hidIt (E6.out.trans (B7.below (by have := Z4.out; have := Z5.out; omega) E6.out.size)); have Q7 := hidIt (Q6.out.but B7 (by have := Z4.out; have := Z5.out; omega)); clear R6 R7 B7 E6 Q6)
    | (refine wpList_build_to rfl 107 _ rfl (blkC blk0 none 0 none 0).toArray (by kernel_rfl) ?_)
    | (refine wpList_store_rec rfl 107 (.tmp 4) (.tmp 38) rfl (W.heap.size + 1) 0 _ (blkC blk0 none 0 none 0) rfl rfl Q7.out rfl (by kernel_rfl) (blkC_one _ _ _ _ _) ?_; intro W8 R8 B8))
  have hl := R8.run_load 107 _ Tryz.underlying107 rfl (by kernel_rfl)
  refine bodyPost_ret (v := .tuple #[.agg (blkC blk0 none 0 none 0).toArray, .slice none 0 0, .int .i64 13]) (by simp [results, Tryz.results154, asAddr, hl]) rfl ⟨rfl, E7.out.trans (B8.below (by omega) E7.out.size)⟩
theorem TbGot.belowI {w w' u : World} {s : Blk} {g1 g2 : Nat} (h : TbGot w w' s g1 g2) (hB : Below w'.heap.size w' u) : TbGot w u s g1 g2 :=
  ⟨fun j hj => (hB.cell (p := ⟨g1, j, none⟩) h.l1).trans (h.refs j hj), Nat.lt_of_lt_of_le h.l1 hB.size, h.row.below hB, h.n1, h.n2, h.byt⟩
set_option maxRecDepth 100000 in
set_option maxHeartbeats 2000000 in
theorem gload_ok (w0 W : World) (g d s m b mm n i : Nat) (v : Value) (D : Dsk) (p q : Int) (hS : St w0 W d s m D) (hf : D.free) (hG : GAt W g d n b v mm) (hN : 104 + 4 * n ≤ D.N) (hi : i < n) (hn : n ≤ 512) (hp : p = (i : Int) + 1) (hw : Whole (blF D i)) (hx1 : (blkOf (behO (blF D i))).x 1 = p) (hx2 : (blkOf (behO (blF D i))).x 2 = q) :
    Calls Tryz.prog 154 #[.pointer (some ⟨g, 0, none⟩), .agg (twoC p q).toArray] W (LdOk W (blkOf (behO (blF D i))) (blF D i)) := by
  have HS := hidIt (And.intro hS hf)
  have HG := hidIt hG
  have HI := hidIt (And.intro hN (And.intro hi (And.intro hn hp)))
  have FB := hidIt (fun (j : Nat) (hj : j < 1024) => blF_byte hS.at' i (by omega) j hj)
  have HW := hidIt hw
  obtain ⟨S, hSd⟩ : ∃ S, blkOf (behO (blF D i)) = S := ⟨_, rfl⟩
  have RD : Hid (∀ (u : World) (y : Nat), Lies u y 0 1024 (blF D i) → Calls Tryz.prog 46 #[.slice (some ⟨y, 0, none⟩) 1024 1024] u (RdOk u S)) := fun u y hL => by rw [← hSd]; exact read_ok y 0 1024 _ u hL (Nat.le_refl _) hw
  rw [hSd] at hx1 hx2 ⊢
  have X1E : Hid ((blkC S none 0 none 0)[1]? = some (.int .i64 p)) := by rw [← hx1]; rfl
  have X2E : Hid ((blkC S none 0 none 0)[2]? = some (.int .i64 q)) := by rw [← hx2]; rfl
  clear hw hx1 hx2 hSd
  clear hS hf hG hN hi hn hp
  have T1 : Hid True := trivial
  go_enter Tryz.func154, Tryz.ntmps154
  go_wp2_with (first
    | (refine wpList_box_rec rfl 57 (.tmp 1) rfl (twoC p q) rfl W.heap.size rfl ?_; intro W1 R1 B1 z1)
    | (have _q := T1; clear T1; refine wpList_alloc_rec rfl 107 rfl (blkC blk0 none 0 none 0) (W.heap.size + 1) z1 zero_blk ?_; intro W2 R2 B2 z2
       have E2 := hidIt (B1.trans (B2.mono (by omega))); have P2 := hidIt (R1.below (by rw [z1]; exact B2)); have Q2 := hidIt R2; have Z2 := hidIt z2; clear R1 B1 z1 R2 B2 z2))
  have c1 := (HG.out.below E2.out).c1
  have c2 := (P2.out.cel 0 (.int .i64 p) rfl).1
  refine wp_region_noPanic ?_
  refine wp_region_held_drew (S := fun W' => W'.cell? ⟨g, 1, none⟩ = some (.pointer (some ⟨d, 0, none⟩)) ∧ W'.cell? ⟨W.heap.size, 0, none⟩ = some (.int .i64 p)) (by kernel_rfl) ?_ (fun hHeld => ?_)
  · exact ⟨c1, c2⟩
  refine take_at (i := 0) (v := ?_) (some 11) rfl rfl (by kernel_rfl) (by kernel_rfl) (by kernel_rfl) (fun _ _ _ h => h) (Or.inl ⟨by rfl, ?_⟩) (by assumption) ?_
  rotate_left
  · (intro w hSw; (try dsimp only at hSw); go_simp; try with_reducible rfl)
  simp only [Act.put, List.setIfInBounds_toArray, List.set_cons_zero, List.set_cons_succ]
  refine take_at (i := 1) (v := ?_) (some 12) rfl rfl (by kernel_rfl) (by kernel_rfl) (by kernel_rfl) (fun _ _ _ h => h) (Or.inl ⟨by rfl, ?_⟩) (by assumption) ?_
  rotate_left
  · (intro w hSw; (try dsimp only at hSw); go_simp; try with_reducible rfl)
  simp only [Act.put, List.setIfInBounds_toArray, List.set_cons_zero, List.set_cons_succ]
  refine take_at (i := 2) (v := ?_) (some 13) rfl rfl (by kernel_rfl) (by kernel_rfl) (by kernel_rfl) (fun _ _ _ h => h) (Or.inl ⟨by rfl, ?_⟩) (by assumption) ?_
  rotate_left
  · (intro w hSw; (try dsimp only at hSw); go_simp; try with_reducible rfl)
  simp only [Act.put, List.setIfInBounds_toArray, List.set_cons_zero, List.set_cons_succ]
  refine take_at (i := 3) (v := ?_) (some 14) rfl rfl (by kernel_rfl) (by kernel_rfl) (by kernel_rfl) (fun _ _ _ h => h) (Or.inl ⟨by rfl, ?_⟩) (by assumption) ?_
  rotate_left
  · (intro w hSw; (try dsimp only at hSw); go_simp; try with_reducible rfl)
  simp only [Act.put, List.setIfInBounds_toArray, List.set_cons_zero, List.set_cons_succ]
  refine take_at (i := 4) (v := ?_) (some 15) rfl rfl (by kernel_rfl) (by kernel_rfl) (by kernel_rfl) (fun _ _ _ h => h) (Or.inl ⟨by rfl, ?_⟩) (by assumption) ?_
  rotate_left
  · (intro w hSw; (try dsimp only at hSw); go_simp; try with_reducible rfl)
  simp only [Act.put, List.setIfInBounds_toArray, List.set_cons_zero, List.set_cons_succ]
  refine take_at (i := 5) (v := ?_) (some 16) rfl rfl (by kernel_rfl) (by kernel_rfl) (by kernel_rfl) (fun _ _ _ h => h) (Or.inl ⟨by rfl, ?_⟩) (by assumption) ?_
  rotate_left
  · (intro w hSw; (try dsimp only at hSw); go_simp; try with_reducible rfl)
  simp only [Act.put, List.setIfInBounds_toArray, List.set_cons_zero, List.set_cons_succ]
  refine call_at (i := 6) (some 17) 124 _ _ rfl rfl rfl (by rfl) (by kernel_rfl) #[.int .i64 p] rfl Tryz.func124 (by kernel_rfl) (by kernel_rfl) ?_
  refine (place_okI p _ (by have := HI.out; omega) (by have := HI.out; omega)).mono ?_
  rintro e wp ⟨rfl, hwp⟩
  subst hwp
  refine ⟨_, rfl, by assumption, fun hHeld => ?_⟩
  simp only [Act.put, List.setIfInBounds_toArray, List.set_cons_zero, List.set_cons_succ]
  have E3 := hidIt (E2.out.drew)
  refine call_at (i := 7) (some 18) 45 _ _ rfl rfl rfl (by rfl) (by kernel_rfl) #[.pointer (some ⟨d, 0, none⟩), .int .i64 (104 + (p - 1) * 4), .int .i64 4] rfl Tryz.func45 (by kernel_rfl) (by kernel_rfl) ?_
  refine (rd4_ok w0 _ d s m i D _ (HS.out.1.below E3.out) HS.out.2 (by have := HI.out; omega) (by have := HI.out; omega)).mono ?_
  rintro e w3 ⟨rfl, hI, hB⟩
  have E4 := hidIt (below_sh (Nat.le_refl _) E3.out hB)
  have P4 := hidIt (P2.out.below ((Below.refl _ _).drew.trans hB))
  have Q4 := hidIt (Q2.out.below ((Below.refl _ _).drew.trans hB))
  have I4 := hidIt hI
  have Z4 : Hid (W.heap.size + 2 = W2.heap.size ∧ W2.heap.size < w3.heap.size) := ⟨Z2.out.symm, hI.2.2⟩
  refine ⟨_, rfl, ⟨(HG.out.below E4.out).c1, (P4.out.cel 0 (.int .i64 p) rfl).1⟩, fun hHeld => ?_⟩
  simp only [Act.put, List.setIfInBounds_toArray, List.set_cons_zero, List.set_cons_succ]
  refine take_at (i := 8) (v := ?_) (some 10) rfl rfl (by kernel_rfl) (by kernel_rfl) (by kernel_rfl) (fun _ _ _ h => h) (Or.inl ⟨by rfl, ?_⟩) (by assumption) ?_
  rotate_left
  · (intro w hSw; (try dsimp only at hSw); go_simp; try with_reducible rfl)
  simp only [Act.put, List.setIfInBounds_toArray, List.set_cons_zero, List.set_cons_succ]
  refine take_at (i := 9) (v := ?_) (some 19) rfl rfl (by kernel_rfl) (by kernel_rfl) (by kernel_rfl) (fun _ _ _ h => h) (Or.inl ⟨by rfl, ?_⟩) (by assumption) ?_
  rotate_left
  · (intro w hSw; (try dsimp only at hSw); go_simp; try with_reducible rfl)
  simp only [Act.put, List.setIfInBounds_toArray, List.set_cons_zero, List.set_cons_succ]
  refine take_at (i := 10) (v := ?_) (some 20) rfl rfl (by kernel_rfl) (by kernel_rfl) (by kernel_rfl) (fun _ _ _ h => h) (Or.inl ⟨by rfl, ?_⟩) (by assumption) ?_
  rotate_left
  · (intro w hSw; (try dsimp only at hSw); go_simp; try with_reducible rfl)
  simp only [Act.put, List.setIfInBounds_toArray, List.set_cons_zero, List.set_cons_succ]
  refine take_at (i := 11) (v := ?_) (some 7) rfl rfl (by kernel_rfl) (by kernel_rfl) (by kernel_rfl) (fun _ _ _ h => h) (Or.inl ⟨by rfl, ?_⟩) (by assumption) ?_
  rotate_left
  · (intro w hSw; (try dsimp only at hSw); go_simp; try with_reducible rfl)
  simp only [Act.put, List.setIfInBounds_toArray, List.set_cons_zero, List.set_cons_succ]
  refine take_at (i := 12) (v := ?_) (some 8) rfl rfl (by kernel_rfl) (by kernel_rfl) (by kernel_rfl) (fun _ _ _ h => h) (Or.inl ⟨by rfl, ?_⟩) (by assumption) ?_
  rotate_left
  · (intro w hSw; (try dsimp only at hSw); go_simp; try with_reducible rfl)
  simp only [Act.put, List.setIfInBounds_toArray, List.set_cons_zero, List.set_cons_succ]
  refine wpAnyH_done (by kernel_rfl) ?_ _
  refine NoPanic.normal ?_
  have hz : (W2.drew).heap.size = W2.heap.size := rfl
  rw [hz]
  clear c1 c2 hHeld hI hB hz E3 P2 Q2 E2
  have K0 : Hid True := trivial
  go_wp2_with (first
    | (go_at_call 46; refine (RD.out _ _ (I4.out.lies FB.out)).mono ?_; rintro e w5 ⟨g1, g2, rfl, hK, hB⟩; unfold blkV; have E5 := hidIt (below_sh (Nat.le_refl _) E4.out hB); have Q5 := hidIt (Q4.out.below hB); have P5 := hidIt (P4.out.below hB); have G5 := hidIt hK; have I5 := hidIt (I4.out.below hB); have Z5 : Hid (w3.heap.size ≤ w5.heap.size) := hB.size; clear hB hK E4 Q4 P4 I4)
    | (have _q := K0; clear K0; refine wpList_alloc_rec rfl 107 rfl (blkC blk0 none 0 none 0) w5.heap.size rfl zero_blk ?_; intro W6 R6 B6 z6; have E6 := hidIt (below_sh (Nat.le_refl _) E5.out B6); have Q6 := hidIt (Q5.out.below B6); have P6 := hidIt (P5.out.below B6); have G6 := hidIt (And.intro B6 (And.intro G5.out I5.out)); clear B6 E5 Q5 P5 G5 I5)
    | (refine wpList_store_rec rfl 107 (.tmp 9) (.tmp 28) rfl w5.heap.size 0 _ (blkC S (some ⟨g1, 0, none⟩) S.k (some ⟨g2, 0, none⟩) S.n) rfl rfl R6 rfl (by kernel_rfl) (blkC_one _ _ _ _ _) ?_; intro W7 R7 B7; have E7 := hidIt (E6.out.trans (B7.below (by have := Z4.out; have := Z5.out; omega) E6.out.size)); have Q7 := hidIt (Q6.out.but B7 (by have := Z4.out; have := Z5.out; omega)); have P7 := hidIt (P6.out.but B7 (by have := Z4.out; have := Z5.out; omega)); have R77 := hidIt R7; have G7 : Hid (Below w5.heap.size w5 W7 ∧ TbGot w3 w5 S g1 g2 ∧ IRow w5 W2.heap.size .u8 1024 (blF D i)) := ⟨G6.out.1.trans (B7.below (Nat.le_refl _) (by omega)), G6.out.2⟩; clear R6 R7 B7 E6 Q6 P6 G6 z6)
    | (refine wpList_load_g (by rfl) 57 (.tmp 33) rfl w5.heap.size 1 (twoC p q) rfl _ Tryz.underlying57 rfl (by kernel_rfl) (two_range (R77.out.cel 1 _ (X1E.out)).1 (R77.out.cel 2 _ (X2E.out)).1) ?_)
    | (refine wpList_load_g (by rfl) 57 (.tmp 3) rfl W.heap.size 0 (twoC p q) rfl _ Tryz.underlying57 rfl (by kernel_rfl) P7.out.1 ?_)
    | (refine wpList_neq_wI (by rfl) 57 _ (.tmp 34) (.tmp 35) rfl _ _ false rfl rfl (neq_self p q) (by kernel_rfl) ?_)
    | (refine wpList_load_rec rfl 107 (.tmp 9) rfl w5.heap.size 0 (blkC S (some ⟨g1, 0, none⟩) S.k (some ⟨g2, 0, none⟩) S.n) rfl _ Tryz.underlying107 rfl (by kernel_rfl) R77.out ?_)
    | (refine wpList_store_rec rfl 107 (.tmp 4) (.tmp 39) rfl (W.heap.size + 1) 0 _ (blkC S (some ⟨g1, 0, none⟩) S.k (some ⟨g2, 0, none⟩) S.n) rfl rfl Q7.out rfl (by kernel_rfl) (blkC_one _ _ _ _ _) ?_; intro W8 R8 B8))
  have hl := R8.run_load 107 _ Tryz.underlying107 rfl (by kernel_rfl)
  have z4 := Z4.out
  have z5 := Z5.out
  have k1 := G7.out.2.1.n1
  have k2 := G7.out.2.1.n2
  have r7 := G7.out.2.2.below G7.out.1
  have t7 := (G7.out.2.1.belowI G7.out.1).but B8 (by omega) (by omega)
  refine bodyPost_ret (v := .tuple #[.agg (blkC S (some ⟨g1, 0, none⟩) S.k (some ⟨g2, 0, none⟩) S.n).toArray, .slice (some ⟨W2.heap.size, 0, none⟩) 1024 1024, .int .i64 0]) (by simp [results, Tryz.results154, asAddr, hl]) rfl ⟨g1, g2, W2.heap.size, rfl, t7.mono (by omega), by omega, r7.but B8 (by omega), E7.out.trans (B8.below (by omega) E7.out.size)⟩
set_option maxRecDepth 100000 in
set_option maxHeartbeats 2000000 in
theorem gload_ref (w0 W : World) (g d s m b mm n i : Nat) (v : Value) (D : Dsk) (p q : Int) (hS : St w0 W d s m D) (hf : D.free) (hG : GAt W g d n b v mm) (hN : 104 + 4 * n ≤ D.N) (hi : i < n) (hn : n ≤ 512) (hp : p = (i : Int) + 1) (hw : Whole (blF D i)) (hx : ¬ ((blkOf (behO (blF D i))).x 1 = p ∧ (blkOf (behO (blF D i))).x 2 = q)) :
    Calls Tryz.prog 154 #[.pointer (some ⟨g, 0, none⟩), .agg (twoC p q).toArray] W (LdNo W) := by
  have HS := hidIt (And.intro hS hf)
  have HG := hidIt hG
  have HI := hidIt (And.intro hN (And.intro hi (And.intro hn hp)))
  have FB := hidIt (fun (j : Nat) (hj : j < 1024) => blF_byte hS.at' i (by omega) j hj)
  have HW := hidIt hw
  obtain ⟨S, hSd⟩ : ∃ S, blkOf (behO (blF D i)) = S := ⟨_, rfl⟩
  have RD : Hid (∀ (u : World) (y : Nat), Lies u y 0 1024 (blF D i) → Calls Tryz.prog 46 #[.slice (some ⟨y, 0, none⟩) 1024 1024] u (RdOk u S)) := fun u y hL => by rw [← hSd]; exact read_ok y 0 1024 _ u hL (Nat.le_refl _) hw
  rw [hSd] at hx
  obtain ⟨X1, h1⟩ : ∃ X1, S.x 1 = X1 := ⟨_, rfl⟩
  obtain ⟨X2, h2⟩ : ∃ X2, S.x 2 = X2 := ⟨_, rfl⟩
  rw [h1, h2] at hx
  have NE := hidIt hx
  have X1E : Hid ((blkC S none 0 none 0)[1]? = some (.int .i64 X1)) := by rw [← h1]; rfl
  have X2E : Hid ((blkC S none 0 none 0)[2]? = some (.int .i64 X2)) := by rw [← h2]; rfl
  clear hw hx hSd h1 h2
  clear hS hf hG hN hi hn hp
  have T1 : Hid True := trivial
  go_enter Tryz.func154, Tryz.ntmps154
  go_wp2_with (first
    | (refine wpList_box_rec rfl 57 (.tmp 1) rfl (twoC p q) rfl W.heap.size rfl ?_; intro W1 R1 B1 z1)
    | (have _q := T1; clear T1; refine wpList_alloc_rec rfl 107 rfl (blkC blk0 none 0 none 0) (W.heap.size + 1) z1 zero_blk ?_; intro W2 R2 B2 z2
       have E2 := hidIt (B1.trans (B2.mono (by omega))); have P2 := hidIt (R1.below (by rw [z1]; exact B2)); have Q2 := hidIt R2; have Z2 := hidIt z2; clear R1 B1 z1 R2 B2 z2))
  have c1 := (HG.out.below E2.out).c1
  have c2 := (P2.out.cel 0 (.int .i64 p) rfl).1
  refine wp_region_noPanic ?_
  refine wp_region_held_drew (S := fun W' => W'.cell? ⟨g, 1, none⟩ = some (.pointer (some ⟨d, 0, none⟩)) ∧ W'.cell? ⟨W.heap.size, 0, none⟩ = some (.int .i64 p)) (by kernel_rfl) ?_ (fun hHeld => ?_)
  · exact ⟨c1, c2⟩
  refine take_at (i := 0) (v := ?_) (some 11) rfl rfl (by kernel_rfl) (by kernel_rfl) (by kernel_rfl) (fun _ _ _ h => h) (Or.inl ⟨by rfl, ?_⟩) (by assumption) ?_
  rotate_left
  · (intro w hSw; (try dsimp only at hSw); go_simp; try with_reducible rfl)
  simp only [Act.put, List.setIfInBounds_toArray, List.set_cons_zero, List.set_cons_succ]
  refine take_at (i := 1) (v := ?_) (some 12) rfl rfl (by kernel_rfl) (by kernel_rfl) (by kernel_rfl) (fun _ _ _ h => h) (Or.inl ⟨by rfl, ?_⟩) (by assumption) ?_
  rotate_left
  · (intro w hSw; (try dsimp only at hSw); go_simp; try with_reducible rfl)
  simp only [Act.put, List.setIfInBounds_toArray, List.set_cons_zero, List.set_cons_succ]
  refine take_at (i := 2) (v := ?_) (some 13) rfl rfl (by kernel_rfl) (by kernel_rfl) (by kernel_rfl) (fun _ _ _ h => h) (Or.inl ⟨by rfl, ?_⟩) (by assumption) ?_
  rotate_left
  · (intro w hSw; (try dsimp only at hSw); go_simp; try with_reducible rfl)
  simp only [Act.put, List.setIfInBounds_toArray, List.set_cons_zero, List.set_cons_succ]
  refine take_at (i := 3) (v := ?_) (some 14) rfl rfl (by kernel_rfl) (by kernel_rfl) (by kernel_rfl) (fun _ _ _ h => h) (Or.inl ⟨by rfl, ?_⟩) (by assumption) ?_
  rotate_left
  · (intro w hSw; (try dsimp only at hSw); go_simp; try with_reducible rfl)
  simp only [Act.put, List.setIfInBounds_toArray, List.set_cons_zero, List.set_cons_succ]
  refine take_at (i := 4) (v := ?_) (some 15) rfl rfl (by kernel_rfl) (by kernel_rfl) (by kernel_rfl) (fun _ _ _ h => h) (Or.inl ⟨by rfl, ?_⟩) (by assumption) ?_
  rotate_left
  · (intro w hSw; (try dsimp only at hSw); go_simp; try with_reducible rfl)
  simp only [Act.put, List.setIfInBounds_toArray, List.set_cons_zero, List.set_cons_succ]
  refine take_at (i := 5) (v := ?_) (some 16) rfl rfl (by kernel_rfl) (by kernel_rfl) (by kernel_rfl) (fun _ _ _ h => h) (Or.inl ⟨by rfl, ?_⟩) (by assumption) ?_
  rotate_left
  · (intro w hSw; (try dsimp only at hSw); go_simp; try with_reducible rfl)
  simp only [Act.put, List.setIfInBounds_toArray, List.set_cons_zero, List.set_cons_succ]
  refine call_at (i := 6) (some 17) 124 _ _ rfl rfl rfl (by rfl) (by kernel_rfl) #[.int .i64 p] rfl Tryz.func124 (by kernel_rfl) (by kernel_rfl) ?_
  refine (place_okI p _ (by have := HI.out; omega) (by have := HI.out; omega)).mono ?_
  rintro e wp ⟨rfl, hwp⟩
  subst hwp
  refine ⟨_, rfl, by assumption, fun hHeld => ?_⟩
  simp only [Act.put, List.setIfInBounds_toArray, List.set_cons_zero, List.set_cons_succ]
  have E3 := hidIt (E2.out.drew)
  refine call_at (i := 7) (some 18) 45 _ _ rfl rfl rfl (by rfl) (by kernel_rfl) #[.pointer (some ⟨d, 0, none⟩), .int .i64 (104 + (p - 1) * 4), .int .i64 4] rfl Tryz.func45 (by kernel_rfl) (by kernel_rfl) ?_
  refine (rd4_ok w0 _ d s m i D _ (HS.out.1.below E3.out) HS.out.2 (by have := HI.out; omega) (by have := HI.out; omega)).mono ?_
  rintro e w3 ⟨rfl, hI, hB⟩
  have E4 := hidIt (below_sh (Nat.le_refl _) E3.out hB)
  have P4 := hidIt (P2.out.below ((Below.refl _ _).drew.trans hB))
  have Q4 := hidIt (Q2.out.below ((Below.refl _ _).drew.trans hB))
  have I4 := hidIt hI
  have Z4 : Hid (W.heap.size + 2 = W2.heap.size ∧ W2.heap.size < w3.heap.size) := ⟨Z2.out.symm, hI.2.2⟩
  refine ⟨_, rfl, ⟨(HG.out.below E4.out).c1, (P4.out.cel 0 (.int .i64 p) rfl).1⟩, fun hHeld => ?_⟩
  simp only [Act.put, List.setIfInBounds_toArray, List.set_cons_zero, List.set_cons_succ]
  refine take_at (i := 8) (v := ?_) (some 10) rfl rfl (by kernel_rfl) (by kernel_rfl) (by kernel_rfl) (fun _ _ _ h => h) (Or.inl ⟨by rfl, ?_⟩) (by assumption) ?_
  rotate_left
  · (intro w hSw; (try dsimp only at hSw); go_simp; try with_reducible rfl)
  simp only [Act.put, List.setIfInBounds_toArray, List.set_cons_zero, List.set_cons_succ]
  refine take_at (i := 9) (v := ?_) (some 19) rfl rfl (by kernel_rfl) (by kernel_rfl) (by kernel_rfl) (fun _ _ _ h => h) (Or.inl ⟨by rfl, ?_⟩) (by assumption) ?_
  rotate_left
  · (intro w hSw; (try dsimp only at hSw); go_simp; try with_reducible rfl)
  simp only [Act.put, List.setIfInBounds_toArray, List.set_cons_zero, List.set_cons_succ]
  refine take_at (i := 10) (v := ?_) (some 20) rfl rfl (by kernel_rfl) (by kernel_rfl) (by kernel_rfl) (fun _ _ _ h => h) (Or.inl ⟨by rfl, ?_⟩) (by assumption) ?_
  rotate_left
  · (intro w hSw; (try dsimp only at hSw); go_simp; try with_reducible rfl)
  simp only [Act.put, List.setIfInBounds_toArray, List.set_cons_zero, List.set_cons_succ]
  refine take_at (i := 11) (v := ?_) (some 7) rfl rfl (by kernel_rfl) (by kernel_rfl) (by kernel_rfl) (fun _ _ _ h => h) (Or.inl ⟨by rfl, ?_⟩) (by assumption) ?_
  rotate_left
  · (intro w hSw; (try dsimp only at hSw); go_simp; try with_reducible rfl)
  simp only [Act.put, List.setIfInBounds_toArray, List.set_cons_zero, List.set_cons_succ]
  refine take_at (i := 12) (v := ?_) (some 8) rfl rfl (by kernel_rfl) (by kernel_rfl) (by kernel_rfl) (fun _ _ _ h => h) (Or.inl ⟨by rfl, ?_⟩) (by assumption) ?_
  rotate_left
  · (intro w hSw; (try dsimp only at hSw); go_simp; try with_reducible rfl)
  simp only [Act.put, List.setIfInBounds_toArray, List.set_cons_zero, List.set_cons_succ]
  refine wpAnyH_done (by kernel_rfl) ?_ _
  refine NoPanic.normal ?_
  have hz : (W2.drew).heap.size = W2.heap.size := rfl
  rw [hz]
  clear c1 c2 hHeld hI hB hz E3 P2 Q2 E2
  have K0 : Hid True := trivial
  go_wp2_with (first
    | (go_at_call 46; refine (RD.out _ _ (I4.out.lies FB.out)).mono ?_; rintro e w5 ⟨g1, g2, rfl, hK, hB⟩; unfold blkV; have E5 := hidIt (below_sh (Nat.le_refl _) E4.out hB); have Q5 := hidIt (Q4.out.below hB); have P5 := hidIt (P4.out.below hB); have G5 := hidIt hK; have I5 := hidIt (I4.out.below hB); have Z5 : Hid (w3.heap.size ≤ w5.heap.size) := hB.size; clear hB hK E4 Q4 P4 I4)
    | (have _q := K0; clear K0; refine wpList_alloc_rec rfl 107 rfl (blkC blk0 none 0 none 0) w5.heap.size rfl zero_blk ?_; intro W6 R6 B6 z6; have E6 := hidIt (below_sh (Nat.le_refl _) E5.out B6); have Q6 := hidIt (Q5.out.below B6); have P6 := hidIt (P5.out.below B6); have G6 := hidIt (And.intro B6 (And.intro G5.out I5.out)); clear B6 E5 Q5 P5 G5 I5)
    | (refine wpList_store_rec rfl 107 (.tmp 9) (.tmp 28) rfl w5.heap.size 0 _ (blkC S (some ⟨g1, 0, none⟩) S.k (some ⟨g2, 0, none⟩) S.n) rfl rfl R6 rfl (by kernel_rfl) (blkC_one _ _ _ _ _) ?_; intro W7 R7 B7; have E7 := hidIt (E6.out.trans (B7.below (by have := Z4.out; have := Z5.out; omega) E6.out.size)); have Q7 := hidIt (Q6.out.but B7 (by have := Z4.out; have := Z5.out; omega)); have P7 := hidIt (P6.out.but B7 (by have := Z4.out; have := Z5.out; omega)); have R77 := hidIt R7; have G7 : Hid (Below w5.heap.size w5 W7 ∧ TbGot w3 w5 S g1 g2 ∧ IRow w5 W2.heap.size .u8 1024 (blF D i)) := ⟨G6.out.1.trans (B7.below (Nat.le_refl _) (by omega)), G6.out.2⟩; clear R6 R7 B7 E6 Q6 P6 G6 z6)
    | (refine wpList_load_g (by rfl) 57 (.tmp 33) rfl w5.heap.size 1 (twoC X1 X2) rfl _ Tryz.underlying57 rfl (by kernel_rfl) (two_range (R77.out.cel 1 _ (X1E.out)).1 (R77.out.cel 2 _ (X2E.out)).1) ?_)
    | (refine wpList_load_g (by rfl) 57 (.tmp 3) rfl W.heap.size 0 (twoC p q) rfl _ Tryz.underlying57 rfl (by kernel_rfl) P7.out.1 ?_)
    | (refine wpList_neq_wI (by rfl) 57 _ (.tmp 34) (.tmp 35) rfl _ _ true rfl rfl (neq_other _ _ p q NE.out) (by kernel_rfl) ?_)
    | (refine wpList_build_to rfl 107 _ rfl (blkC blk0 none 0 none 0).toArray (by kernel_rfl) ?_)
    | (refine wpList_store_rec rfl 107 (.tmp 4) (.tmp 38) rfl (W.heap.size + 1) 0 _ (blkC blk0 none 0 none 0) rfl rfl Q7.out rfl (by kernel_rfl) (blkC_one _ _ _ _ _) ?_; intro W8 R8 B8))
  have hl := R8.run_load 107 _ Tryz.underlying107 rfl (by kernel_rfl)
  refine bodyPost_ret (v := .tuple #[.agg (blkC blk0 none 0 none 0).toArray, .slice none 0 0, .int .i64 13]) (by simp [results, Tryz.results154, asAddr, hl]) rfl ⟨rfl, E7.out.trans (B8.below (by omega) E7.out.size)⟩
end Go.Proofs.YtblphlcnbnklmaaGreatDoor
namespace Go.Proofs.YtblphlcnbnklmaaGreatDoor
open Go.RowKit Go.Maps
/-- A ref is of the grid. -/
def OfG (n : Nat) (p q : Int) : Prop := 1 ≤ p ∧ p ≤ (n : Int) ∧ 0 ≤ q ∧ q ≤ 1073741824
instance (n : Nat) (p q : Int) : Decidable (OfG n p q) := by unfold OfG; exact inferInstance
set_option maxRecDepth 100000 in
set_option maxHeartbeats 1000000 in
theorem ghas_any (W : World) (g d n b mm : Nat) (v : Value) (p q : Int) (h : GAt W g d n b v mm) : Calls Tryz.prog 189 #[.pointer (some ⟨g, 0, none⟩), .agg (twoC p q).toArray] W fun e w' => e = .returned (.bool (decide (OfG n p q))) ∧ Below W.heap.size W w' := by
  have HG := hidIt h
  clear h
  by_cases h1 : 1 ≤ p
  · by_cases h2 : p ≤ (n : Int)
    · by_cases h3 : 0 ≤ q
      · by_cases h4 : q ≤ 1073741824
        · have e : decide (OfG n p q) = true := decide_eq_true ⟨h1, h2, h3, h4⟩
          rw [e]
          clear e
          go_enter Tryz.func189, Tryz.ntmps189
          go_wp2_with (first
            | (refine wpList_box_rec rfl 57 (.tmp 1) rfl (twoC p q) rfl W.heap.size rfl ?_; intro W1 R1 B1 z1))
          have c0 := (R1.cel 0 (.int .i64 p) rfl).1
          have c1 := (R1.cel 1 (.int .i64 q) rfl).1
          have c2 := (HG.out.below B1).c2
          have E1 := hidIt B1
          clear R1 B1 z1
          go_region_held3 (fun W' => W'.cell? ⟨W.heap.size, 0, none⟩ = some (.int .i64 p) ∧ W'.cell? ⟨W.heap.size, 1, none⟩ = some (.int .i64 q) ∧ W'.cell? ⟨g, 2, none⟩ = some (.int .i64 (n : Int))) (exact ⟨c0, c1, c2⟩) (fail)
          go_wp2_with fail
          go_ret
          exact ⟨rfl, E1.out.drew⟩
        · have e : decide (OfG n p q) = false := decide_eq_false (fun h => h4 h.2.2.2)
          rw [e]
          clear e
          have h4' : (q ≤ 1073741824) = False := eq_false h4
          clear h4
          go_enter Tryz.func189, Tryz.ntmps189
          go_wp2_with (first
            | (refine wpList_box_rec rfl 57 (.tmp 1) rfl (twoC p q) rfl W.heap.size rfl ?_; intro W1 R1 B1 z1))
          have c0 := (R1.cel 0 (.int .i64 p) rfl).1
          have c1 := (R1.cel 1 (.int .i64 q) rfl).1
          have c2 := (HG.out.below B1).c2
          have E1 := hidIt B1
          clear R1 B1 z1
          go_region_held3 (fun W' => W'.cell? ⟨W.heap.size, 0, none⟩ = some (.int .i64 p) ∧ W'.cell? ⟨W.heap.size, 1, none⟩ = some (.int .i64 q) ∧ W'.cell? ⟨g, 2, none⟩ = some (.int .i64 (n : Int))) (exact ⟨c0, c1, c2⟩) (fail)
          go_wp2_with fail
          go_ret
          exact ⟨rfl, E1.out.drew⟩
      · have e : decide (OfG n p q) = false := decide_eq_false (fun h => h3 h.2.2.1)
        rw [e]
        clear e
        have h3' : (0 ≤ q) = False := eq_false h3
        clear h3
        go_enter Tryz.func189, Tryz.ntmps189
        go_wp2_with (first
          | (refine wpList_box_rec rfl 57 (.tmp 1) rfl (twoC p q) rfl W.heap.size rfl ?_; intro W1 R1 B1 z1))
        have c0 := (R1.cel 0 (.int .i64 p) rfl).1
        have c1 := (R1.cel 1 (.int .i64 q) rfl).1
        have c2 := (HG.out.below B1).c2
        have E1 := hidIt B1
        clear R1 B1 z1
        refine wp_region_noPanic ?_
        refine wp_region_held_drew (S := fun W' => W'.cell? ⟨W.heap.size, 0, none⟩ = some (.int .i64 p) ∧ W'.cell? ⟨W.heap.size, 1, none⟩ = some (.int .i64 q) ∧ W'.cell? ⟨g, 2, none⟩ = some (.int .i64 (n : Int))) (by kernel_rfl) ?_ (fun hHeld => ?_)
        · exact ⟨c0, c1, c2⟩
        refine take_at (i := 0) (v := ?_) (some 5) rfl rfl (by kernel_rfl) (by kernel_rfl) (by kernel_rfl) (fun _ _ _ h => h) (Or.inl ⟨by rfl, ?_⟩) (by assumption) ?_
        rotate_left
        · (intro w hSw; (try dsimp only at hSw); go_simp; try with_reducible rfl)
        simp only [Act.put, List.setIfInBounds_toArray, List.set_cons_zero, List.set_cons_succ]
        refine take_at (i := 1) (v := ?_) (some 6) rfl rfl (by kernel_rfl) (by kernel_rfl) (by kernel_rfl) (fun _ _ _ h => h) (Or.inl ⟨by rfl, ?_⟩) (by assumption) ?_
        rotate_left
        · (intro w hSw; (try dsimp only at hSw); go_simp; try with_reducible rfl)
        simp only [Act.put, List.setIfInBounds_toArray, List.set_cons_zero, List.set_cons_succ]
        refine take_at (i := 2) (v := ?_) (some 7) rfl rfl (by kernel_rfl) (by kernel_rfl) (by kernel_rfl) (fun _ _ _ h => h) (Or.inl ⟨by rfl, ?_⟩) (by assumption) ?_
        rotate_left
        · (intro w hSw; (try dsimp only at hSw); go_simp; try with_reducible rfl)
        simp only [Act.put, List.setIfInBounds_toArray, List.set_cons_zero, List.set_cons_succ]
        refine take_at (i := 3) (v := ?_) (some 8) rfl rfl (by kernel_rfl) (by kernel_rfl) (by kernel_rfl) (fun _ _ _ h => h) (Or.inl ⟨by rfl, ?_⟩) (by assumption) ?_
        rotate_left
        · (intro w hSw; (try dsimp only at hSw); go_simp; try with_reducible rfl)
        simp only [Act.put, List.setIfInBounds_toArray, List.set_cons_zero, List.set_cons_succ]
        refine take_at (i := 4) (v := ?_) (some 9) rfl rfl (by kernel_rfl) (by kernel_rfl) (by kernel_rfl) (fun _ _ _ h => h) (Or.inl ⟨by rfl, ?_⟩) (by assumption) ?_
        rotate_left
        · (intro w hSw; (try dsimp only at hSw); go_simp; try with_reducible rfl)
        simp only [Act.put, List.setIfInBounds_toArray, List.set_cons_zero, List.set_cons_succ]
        refine take_at (i := 5) (v := ?_) (some 10) rfl rfl (by kernel_rfl) (by kernel_rfl) (by kernel_rfl) (fun _ _ _ h => h) (Or.inl ⟨by rfl, ?_⟩) (by assumption) ?_
        rotate_left
        · (intro w hSw; (try dsimp only at hSw); go_simp; try with_reducible rfl)
        simp only [Act.put, List.setIfInBounds_toArray, List.set_cons_zero, List.set_cons_succ]
        refine take_at (i := 6) (v := ?_) (some 11) rfl rfl (by kernel_rfl) (by kernel_rfl) (by kernel_rfl) (fun _ _ _ h => h) (Or.inl ⟨by rfl, ?_⟩) (by assumption) ?_
        rotate_left
        · (intro w hSw; (try dsimp only at hSw); go_simp; try with_reducible rfl)
        simp only [Act.put, List.setIfInBounds_toArray, List.set_cons_zero, List.set_cons_succ]
        refine take_at (i := 7) (v := ?_) (some 12) rfl rfl (by kernel_rfl) (by kernel_rfl) (by kernel_rfl) (fun _ _ _ h => h) (Or.inl ⟨by rfl, ?_⟩) (by assumption) ?_
        rotate_left
        · (intro w hSw; (try dsimp only at hSw); go_simp; try with_reducible rfl)
        simp only [Act.put, List.setIfInBounds_toArray, List.set_cons_zero, List.set_cons_succ]
        refine take_at (i := 8) (v := ?_) (some 13) rfl rfl (by kernel_rfl) (by kernel_rfl) (by kernel_rfl) (fun _ _ _ h => h) (Or.inl ⟨by rfl, ?_⟩) (by assumption) ?_
        rotate_left
        · (intro w hSw; (try dsimp only at hSw); go_simp; try with_reducible rfl)
        simp only [Act.put, List.setIfInBounds_toArray, List.set_cons_zero, List.set_cons_succ]
        refine take_at (i := 9) (v := ?_) (some 14) rfl rfl (by kernel_rfl) (by kernel_rfl) (by kernel_rfl) (fun _ _ _ h => h) (Or.inl ⟨by rfl, ?_⟩) (by assumption) ?_
        rotate_left
        · (intro w hSw; (try dsimp only at hSw); go_simp; try with_reducible rfl)
        simp only [Act.put, List.setIfInBounds_toArray, List.set_cons_zero, List.set_cons_succ]
        refine take_at (i := 10) (v := ?_) (some 15) rfl rfl (by kernel_rfl) (by kernel_rfl) (by kernel_rfl) (fun _ _ _ h => h) (Or.inl ⟨by rfl, ?_⟩) (by assumption) ?_
        rotate_left
        · (intro w hSw; (try dsimp only at hSw); go_simp; try with_reducible rfl)
        simp only [Act.put, List.setIfInBounds_toArray, List.set_cons_zero, List.set_cons_succ]
        refine take_at (i := 11) (v := ?_) (some 16) rfl rfl (by kernel_rfl) (by kernel_rfl) (by kernel_rfl) (fun _ _ _ h => h) (Or.inl ⟨by rfl, ?_⟩) (by assumption) ?_
        rotate_left
        · (intro w hSw; (try dsimp only at hSw); go_simp; try with_reducible rfl)
        simp only [Act.put, List.setIfInBounds_toArray, List.set_cons_zero, List.set_cons_succ]
        refine take_at (i := 12) (v := ?_) (some 17) rfl rfl (by kernel_rfl) (by kernel_rfl) (by kernel_rfl) (fun _ _ _ h => h) (Or.inl ⟨by rfl, ?_⟩) (by assumption) ?_
        rotate_left
        · (intro w hSw; (try dsimp only at hSw); go_simp; try with_reducible rfl)
        simp only [Act.put, List.setIfInBounds_toArray, List.set_cons_zero, List.set_cons_succ]
        refine take_at (i := 13) (v := ?_) (some 18) rfl rfl (by kernel_rfl) (by kernel_rfl) (by kernel_rfl) (fun _ _ _ h => h) (Or.inl ⟨by rfl, ?_⟩) (by assumption) ?_
        rotate_left
        · (intro w hSw; (try dsimp only at hSw); go_simp; try with_reducible rfl)
        simp only [Act.put, List.setIfInBounds_toArray, List.set_cons_zero, List.set_cons_succ]
        refine take_at (i := 14) (v := ?_) (some 19) rfl rfl (by kernel_rfl) (by kernel_rfl) (by kernel_rfl) (fun _ _ _ h => h) (Or.inl ⟨by rfl, ?_⟩) (by assumption) ?_
        rotate_left
        · (intro w hSw; (try dsimp only at hSw); go_simp; try with_reducible rfl)
        simp only [Act.put, List.setIfInBounds_toArray, List.set_cons_zero, List.set_cons_succ]
        refine take_at (i := 15) (v := ?_) (some 20) rfl rfl (by kernel_rfl) (by kernel_rfl) (by kernel_rfl) (fun _ _ _ h => h) (Or.inl ⟨by rfl, ?_⟩) (by assumption) ?_
        rotate_left
        · (intro w hSw; (try dsimp only at hSw); go_simp; try with_reducible rfl)
        simp only [Act.put, List.setIfInBounds_toArray, List.set_cons_zero, List.set_cons_succ]
        refine take_at (i := 16) (v := ?_) (some 21) rfl rfl (by kernel_rfl) (by kernel_rfl) (by kernel_rfl) (fun _ _ _ h => h) (Or.inl ⟨by rfl, ?_⟩) (by assumption) ?_
        rotate_left
        · (intro w hSw; (try dsimp only at hSw); go_simp; try with_reducible rfl)
        simp only [Act.put, List.setIfInBounds_toArray, List.set_cons_zero, List.set_cons_succ]
        refine take_at (i := 17) (v := ?_) (some 22) rfl rfl (by kernel_rfl) (by kernel_rfl) (by kernel_rfl) (fun _ _ _ h => h) (Or.inl ⟨by rfl, ?_⟩) (by assumption) ?_
        rotate_left
        · (intro w hSw; (try dsimp only at hSw); go_simp; try with_reducible rfl)
        simp only [Act.put, List.setIfInBounds_toArray, List.set_cons_zero, List.set_cons_succ]
        refine take_at (i := 18) (v := undef) (some 23) rfl rfl (by kernel_rfl) (by kernel_rfl) (by kernel_rfl) (fun _ _ _ h => h) (Or.inr ⟨by rfl, rfl⟩) (by assumption) ?_
        simp only [Act.put, List.setIfInBounds_toArray, List.set_cons_zero, List.set_cons_succ]
        refine take_at (i := 19) (v := undef) (some 24) rfl rfl (by kernel_rfl) (by kernel_rfl) (by kernel_rfl) (fun _ _ _ h => h) (Or.inr ⟨by rfl, rfl⟩) (by assumption) ?_
        simp only [Act.put, List.setIfInBounds_toArray, List.set_cons_zero, List.set_cons_succ]
        refine take_at (i := 20) (v := undef) (some 25) rfl rfl (by kernel_rfl) (by kernel_rfl) (by kernel_rfl) (fun _ _ _ h => h) (Or.inr ⟨by rfl, rfl⟩) (by assumption) ?_
        simp only [Act.put, List.setIfInBounds_toArray, List.set_cons_zero, List.set_cons_succ]
        refine take_at (i := 21) (v := ?_) (some 26) rfl rfl (by kernel_rfl) (by kernel_rfl) (by kernel_rfl) (fun _ _ _ h => h) (Or.inl ⟨by rfl, ?_⟩) (by assumption) ?_
        rotate_left
        · (intro w hSw; (try dsimp only at hSw); go_simp; try with_reducible rfl)
        simp only [Act.put, List.setIfInBounds_toArray, List.set_cons_zero, List.set_cons_succ]
        refine take_at (i := 22) (v := ?_) (some 4) rfl rfl (by kernel_rfl) (by kernel_rfl) (by kernel_rfl) (fun _ _ _ h => h) (Or.inl ⟨by rfl, ?_⟩) (by assumption) ?_
        rotate_left
        · (intro w hSw; (try dsimp only at hSw); go_simp; try with_reducible rfl)
        simp only [Act.put, List.setIfInBounds_toArray, List.set_cons_zero, List.set_cons_succ]
        refine wpAnyH_done (by kernel_rfl) ?_ _
        refine NoPanic.normal ?_
        go_wp2_with fail
        go_ret
        exact ⟨rfl, E1.out.drew⟩
    · have e : decide (OfG n p q) = false := decide_eq_false (fun h => h2 h.2.1)
      rw [e]
      clear e
      have h2' : (p ≤ (n : Int)) = False := eq_false h2
      clear h2
      go_enter Tryz.func189, Tryz.ntmps189
      go_wp2_with (first
        | (refine wpList_box_rec rfl 57 (.tmp 1) rfl (twoC p q) rfl W.heap.size rfl ?_; intro W1 R1 B1 z1))
      have c0 := (R1.cel 0 (.int .i64 p) rfl).1
      have c1 := (R1.cel 1 (.int .i64 q) rfl).1
      have c2 := (HG.out.below B1).c2
      have E1 := hidIt B1
      clear R1 B1 z1
      refine wp_region_noPanic ?_
      refine wp_region_held_drew (S := fun W' => W'.cell? ⟨W.heap.size, 0, none⟩ = some (.int .i64 p) ∧ W'.cell? ⟨W.heap.size, 1, none⟩ = some (.int .i64 q) ∧ W'.cell? ⟨g, 2, none⟩ = some (.int .i64 (n : Int))) (by kernel_rfl) ?_ (fun hHeld => ?_)
      · exact ⟨c0, c1, c2⟩
      refine take_at (i := 0) (v := ?_) (some 5) rfl rfl (by kernel_rfl) (by kernel_rfl) (by kernel_rfl) (fun _ _ _ h => h) (Or.inl ⟨by rfl, ?_⟩) (by assumption) ?_
      rotate_left
      · (intro w hSw; (try dsimp only at hSw); go_simp; try with_reducible rfl)
      simp only [Act.put, List.setIfInBounds_toArray, List.set_cons_zero, List.set_cons_succ]
      refine take_at (i := 1) (v := ?_) (some 6) rfl rfl (by kernel_rfl) (by kernel_rfl) (by kernel_rfl) (fun _ _ _ h => h) (Or.inl ⟨by rfl, ?_⟩) (by assumption) ?_
      rotate_left
      · (intro w hSw; (try dsimp only at hSw); go_simp; try with_reducible rfl)
      simp only [Act.put, List.setIfInBounds_toArray, List.set_cons_zero, List.set_cons_succ]
      refine take_at (i := 2) (v := ?_) (some 7) rfl rfl (by kernel_rfl) (by kernel_rfl) (by kernel_rfl) (fun _ _ _ h => h) (Or.inl ⟨by rfl, ?_⟩) (by assumption) ?_
      rotate_left
      · (intro w hSw; (try dsimp only at hSw); go_simp; try with_reducible rfl)
      simp only [Act.put, List.setIfInBounds_toArray, List.set_cons_zero, List.set_cons_succ]
      refine take_at (i := 3) (v := ?_) (some 8) rfl rfl (by kernel_rfl) (by kernel_rfl) (by kernel_rfl) (fun _ _ _ h => h) (Or.inl ⟨by rfl, ?_⟩) (by assumption) ?_
      rotate_left
      · (intro w hSw; (try dsimp only at hSw); go_simp; try with_reducible rfl)
      simp only [Act.put, List.setIfInBounds_toArray, List.set_cons_zero, List.set_cons_succ]
      refine take_at (i := 4) (v := ?_) (some 9) rfl rfl (by kernel_rfl) (by kernel_rfl) (by kernel_rfl) (fun _ _ _ h => h) (Or.inl ⟨by rfl, ?_⟩) (by assumption) ?_
      rotate_left
      · (intro w hSw; (try dsimp only at hSw); go_simp; try with_reducible rfl)
      simp only [Act.put, List.setIfInBounds_toArray, List.set_cons_zero, List.set_cons_succ]
      refine take_at (i := 5) (v := ?_) (some 10) rfl rfl (by kernel_rfl) (by kernel_rfl) (by kernel_rfl) (fun _ _ _ h => h) (Or.inl ⟨by rfl, ?_⟩) (by assumption) ?_
      rotate_left
      · (intro w hSw; (try dsimp only at hSw); go_simp; try with_reducible rfl)
      simp only [Act.put, List.setIfInBounds_toArray, List.set_cons_zero, List.set_cons_succ]
      refine take_at (i := 6) (v := ?_) (some 11) rfl rfl (by kernel_rfl) (by kernel_rfl) (by kernel_rfl) (fun _ _ _ h => h) (Or.inl ⟨by rfl, ?_⟩) (by assumption) ?_
      rotate_left
      · (intro w hSw; (try dsimp only at hSw); go_simp; try with_reducible rfl)
      simp only [Act.put, List.setIfInBounds_toArray, List.set_cons_zero, List.set_cons_succ]
      refine take_at (i := 7) (v := ?_) (some 12) rfl rfl (by kernel_rfl) (by kernel_rfl) (by kernel_rfl) (fun _ _ _ h => h) (Or.inl ⟨by rfl, ?_⟩) (by assumption) ?_
      rotate_left
      · (intro w hSw; (try dsimp only at hSw); go_simp; try with_reducible rfl)
      simp only [Act.put, List.setIfInBounds_toArray, List.set_cons_zero, List.set_cons_succ]
      refine take_at (i := 8) (v := ?_) (some 13) rfl rfl (by kernel_rfl) (by kernel_rfl) (by kernel_rfl) (fun _ _ _ h => h) (Or.inl ⟨by rfl, ?_⟩) (by assumption) ?_
      rotate_left
      · (intro w hSw; (try dsimp only at hSw); go_simp; try with_reducible rfl)
      simp only [Act.put, List.setIfInBounds_toArray, List.set_cons_zero, List.set_cons_succ]
      refine take_at (i := 9) (v := ?_) (some 14) rfl rfl (by kernel_rfl) (by kernel_rfl) (by kernel_rfl) (fun _ _ _ h => h) (Or.inl ⟨by rfl, ?_⟩) (by assumption) ?_
      rotate_left
      · (intro w hSw; (try dsimp only at hSw); go_simp; try with_reducible rfl)
      simp only [Act.put, List.setIfInBounds_toArray, List.set_cons_zero, List.set_cons_succ]
      refine take_at (i := 10) (v := ?_) (some 15) rfl rfl (by kernel_rfl) (by kernel_rfl) (by kernel_rfl) (fun _ _ _ h => h) (Or.inl ⟨by rfl, ?_⟩) (by assumption) ?_
      rotate_left
      · (intro w hSw; (try dsimp only at hSw); go_simp; try with_reducible rfl)
      simp only [Act.put, List.setIfInBounds_toArray, List.set_cons_zero, List.set_cons_succ]
      refine take_at (i := 11) (v := ?_) (some 16) rfl rfl (by kernel_rfl) (by kernel_rfl) (by kernel_rfl) (fun _ _ _ h => h) (Or.inl ⟨by rfl, ?_⟩) (by assumption) ?_
      rotate_left
      · (intro w hSw; (try dsimp only at hSw); go_simp; try with_reducible rfl)
      simp only [Act.put, List.setIfInBounds_toArray, List.set_cons_zero, List.set_cons_succ]
      refine take_at (i := 12) (v := ?_) (some 17) rfl rfl (by kernel_rfl) (by kernel_rfl) (by kernel_rfl) (fun _ _ _ h => h) (Or.inl ⟨by rfl, ?_⟩) (by assumption) ?_
      rotate_left
      · (intro w hSw; (try dsimp only at hSw); go_simp; try with_reducible rfl)
      simp only [Act.put, List.setIfInBounds_toArray, List.set_cons_zero, List.set_cons_succ]
      refine take_at (i := 13) (v := undef) (some 18) rfl rfl (by kernel_rfl) (by kernel_rfl) (by kernel_rfl) (fun _ _ _ h => h) (Or.inr ⟨by rfl, rfl⟩) (by assumption) ?_
      simp only [Act.put, List.setIfInBounds_toArray, List.set_cons_zero, List.set_cons_succ]
      refine take_at (i := 14) (v := undef) (some 19) rfl rfl (by kernel_rfl) (by kernel_rfl) (by kernel_rfl) (fun _ _ _ h => h) (Or.inr ⟨by rfl, rfl⟩) (by assumption) ?_
      simp only [Act.put, List.setIfInBounds_toArray, List.set_cons_zero, List.set_cons_succ]
      refine take_at (i := 15) (v := undef) (some 20) rfl rfl (by kernel_rfl) (by kernel_rfl) (by kernel_rfl) (fun _ _ _ h => h) (Or.inr ⟨by rfl, rfl⟩) (by assumption) ?_
      simp only [Act.put, List.setIfInBounds_toArray, List.set_cons_zero, List.set_cons_succ]
      refine take_at (i := 16) (v := ?_) (some 21) rfl rfl (by kernel_rfl) (by kernel_rfl) (by kernel_rfl) (fun _ _ _ h => h) (Or.inl ⟨by rfl, ?_⟩) (by assumption) ?_
      rotate_left
      · (intro w hSw; (try dsimp only at hSw); go_simp; try with_reducible rfl)
      simp only [Act.put, List.setIfInBounds_toArray, List.set_cons_zero, List.set_cons_succ]
      refine take_at (i := 17) (v := ?_) (some 22) rfl rfl (by kernel_rfl) (by kernel_rfl) (by kernel_rfl) (fun _ _ _ h => h) (Or.inl ⟨by rfl, ?_⟩) (by assumption) ?_
      rotate_left
      · (intro w hSw; (try dsimp only at hSw); go_simp; try with_reducible rfl)
      simp only [Act.put, List.setIfInBounds_toArray, List.set_cons_zero, List.set_cons_succ]
      refine take_at (i := 18) (v := undef) (some 23) rfl rfl (by kernel_rfl) (by kernel_rfl) (by kernel_rfl) (fun _ _ _ h => h) (Or.inr ⟨by rfl, rfl⟩) (by assumption) ?_
      simp only [Act.put, List.setIfInBounds_toArray, List.set_cons_zero, List.set_cons_succ]
      refine take_at (i := 19) (v := undef) (some 24) rfl rfl (by kernel_rfl) (by kernel_rfl) (by kernel_rfl) (fun _ _ _ h => h) (Or.inr ⟨by rfl, rfl⟩) (by assumption) ?_
      simp only [Act.put, List.setIfInBounds_toArray, List.set_cons_zero, List.set_cons_succ]
      refine take_at (i := 20) (v := undef) (some 25) rfl rfl (by kernel_rfl) (by kernel_rfl) (by kernel_rfl) (fun _ _ _ h => h) (Or.inr ⟨by rfl, rfl⟩) (by assumption) ?_
      simp only [Act.put, List.setIfInBounds_toArray, List.set_cons_zero, List.set_cons_succ]
      refine take_at (i := 21) (v := ?_) (some 26) rfl rfl (by kernel_rfl) (by kernel_rfl) (by kernel_rfl) (fun _ _ _ h => h) (Or.inl ⟨by rfl, ?_⟩) (by assumption) ?_
      rotate_left
      · (intro w hSw; (try dsimp only at hSw); go_simp; try with_reducible rfl)
      simp only [Act.put, List.setIfInBounds_toArray, List.set_cons_zero, List.set_cons_succ]
      refine take_at (i := 22) (v := ?_) (some 4) rfl rfl (by kernel_rfl) (by kernel_rfl) (by kernel_rfl) (fun _ _ _ h => h) (Or.inl ⟨by rfl, ?_⟩) (by assumption) ?_
      rotate_left
      · (intro w hSw; (try dsimp only at hSw); go_simp; try with_reducible rfl)
      simp only [Act.put, List.setIfInBounds_toArray, List.set_cons_zero, List.set_cons_succ]
      refine wpAnyH_done (by kernel_rfl) ?_ _
      refine NoPanic.normal ?_
      go_wp2_with fail
      go_ret
      exact ⟨rfl, E1.out.drew⟩
  · have e : decide (OfG n p q) = false := decide_eq_false (fun h => h1 h.1)
    rw [e]
    clear e
    have h1' : (1 ≤ p) = False := eq_false h1
    clear h1
    go_enter Tryz.func189, Tryz.ntmps189
    go_wp2_with (first
      | (refine wpList_box_rec rfl 57 (.tmp 1) rfl (twoC p q) rfl W.heap.size rfl ?_; intro W1 R1 B1 z1))
    have c0 := (R1.cel 0 (.int .i64 p) rfl).1
    have c1 := (R1.cel 1 (.int .i64 q) rfl).1
    have c2 := (HG.out.below B1).c2
    have E1 := hidIt B1
    clear R1 B1 z1
    refine wp_region_noPanic ?_
    refine wp_region_held_drew (S := fun W' => W'.cell? ⟨W.heap.size, 0, none⟩ = some (.int .i64 p) ∧ W'.cell? ⟨W.heap.size, 1, none⟩ = some (.int .i64 q) ∧ W'.cell? ⟨g, 2, none⟩ = some (.int .i64 (n : Int))) (by kernel_rfl) ?_ (fun hHeld => ?_)
    · exact ⟨c0, c1, c2⟩
    refine take_at (i := 0) (v := ?_) (some 5) rfl rfl (by kernel_rfl) (by kernel_rfl) (by kernel_rfl) (fun _ _ _ h => h) (Or.inl ⟨by rfl, ?_⟩) (by assumption) ?_
    rotate_left
    · (intro w hSw; (try dsimp only at hSw); go_simp; try with_reducible rfl)
    simp only [Act.put, List.setIfInBounds_toArray, List.set_cons_zero, List.set_cons_succ]
    refine take_at (i := 1) (v := ?_) (some 6) rfl rfl (by kernel_rfl) (by kernel_rfl) (by kernel_rfl) (fun _ _ _ h => h) (Or.inl ⟨by rfl, ?_⟩) (by assumption) ?_
    rotate_left
    · (intro w hSw; (try dsimp only at hSw); go_simp; try with_reducible rfl)
    simp only [Act.put, List.setIfInBounds_toArray, List.set_cons_zero, List.set_cons_succ]
    refine take_at (i := 2) (v := ?_) (some 7) rfl rfl (by kernel_rfl) (by kernel_rfl) (by kernel_rfl) (fun _ _ _ h => h) (Or.inl ⟨by rfl, ?_⟩) (by assumption) ?_
    rotate_left
    · (intro w hSw; (try dsimp only at hSw); go_simp; try with_reducible rfl)
    simp only [Act.put, List.setIfInBounds_toArray, List.set_cons_zero, List.set_cons_succ]
    refine take_at (i := 3) (v := ?_) (some 8) rfl rfl (by kernel_rfl) (by kernel_rfl) (by kernel_rfl) (fun _ _ _ h => h) (Or.inl ⟨by rfl, ?_⟩) (by assumption) ?_
    rotate_left
    · (intro w hSw; (try dsimp only at hSw); go_simp; try with_reducible rfl)
    simp only [Act.put, List.setIfInBounds_toArray, List.set_cons_zero, List.set_cons_succ]
    refine take_at (i := 4) (v := undef) (some 9) rfl rfl (by kernel_rfl) (by kernel_rfl) (by kernel_rfl) (fun _ _ _ h => h) (Or.inr ⟨by rfl, rfl⟩) (by assumption) ?_
    simp only [Act.put, List.setIfInBounds_toArray, List.set_cons_zero, List.set_cons_succ]
    refine take_at (i := 5) (v := undef) (some 10) rfl rfl (by kernel_rfl) (by kernel_rfl) (by kernel_rfl) (fun _ _ _ h => h) (Or.inr ⟨by rfl, rfl⟩) (by assumption) ?_
    simp only [Act.put, List.setIfInBounds_toArray, List.set_cons_zero, List.set_cons_succ]
    refine take_at (i := 6) (v := undef) (some 11) rfl rfl (by kernel_rfl) (by kernel_rfl) (by kernel_rfl) (fun _ _ _ h => h) (Or.inr ⟨by rfl, rfl⟩) (by assumption) ?_
    simp only [Act.put, List.setIfInBounds_toArray, List.set_cons_zero, List.set_cons_succ]
    refine take_at (i := 7) (v := undef) (some 12) rfl rfl (by kernel_rfl) (by kernel_rfl) (by kernel_rfl) (fun _ _ _ h => h) (Or.inr ⟨by rfl, rfl⟩) (by assumption) ?_
    simp only [Act.put, List.setIfInBounds_toArray, List.set_cons_zero, List.set_cons_succ]
    refine take_at (i := 8) (v := undef) (some 13) rfl rfl (by kernel_rfl) (by kernel_rfl) (by kernel_rfl) (fun _ _ _ h => h) (Or.inr ⟨by rfl, rfl⟩) (by assumption) ?_
    simp only [Act.put, List.setIfInBounds_toArray, List.set_cons_zero, List.set_cons_succ]
    refine take_at (i := 9) (v := undef) (some 14) rfl rfl (by kernel_rfl) (by kernel_rfl) (by kernel_rfl) (fun _ _ _ h => h) (Or.inr ⟨by rfl, rfl⟩) (by assumption) ?_
    simp only [Act.put, List.setIfInBounds_toArray, List.set_cons_zero, List.set_cons_succ]
    refine take_at (i := 10) (v := undef) (some 15) rfl rfl (by kernel_rfl) (by kernel_rfl) (by kernel_rfl) (fun _ _ _ h => h) (Or.inr ⟨by rfl, rfl⟩) (by assumption) ?_
    simp only [Act.put, List.setIfInBounds_toArray, List.set_cons_zero, List.set_cons_succ]
    refine take_at (i := 11) (v := ?_) (some 16) rfl rfl (by kernel_rfl) (by kernel_rfl) (by kernel_rfl) (fun _ _ _ h => h) (Or.inl ⟨by rfl, ?_⟩) (by assumption) ?_
    rotate_left
    · (intro w hSw; (try dsimp only at hSw); go_simp; try with_reducible rfl)
    simp only [Act.put, List.setIfInBounds_toArray, List.set_cons_zero, List.set_cons_succ]
    refine take_at (i := 12) (v := ?_) (some 17) rfl rfl (by kernel_rfl) (by kernel_rfl) (by kernel_rfl) (fun _ _ _ h => h) (Or.inl ⟨by rfl, ?_⟩) (by assumption) ?_
    rotate_left
    · (intro w hSw; (try dsimp only at hSw); go_simp; try with_reducible rfl)
    simp only [Act.put, List.setIfInBounds_toArray, List.set_cons_zero, List.set_cons_succ]
    refine take_at (i := 13) (v := undef) (some 18) rfl rfl (by kernel_rfl) (by kernel_rfl) (by kernel_rfl) (fun _ _ _ h => h) (Or.inr ⟨by rfl, rfl⟩) (by assumption) ?_
    simp only [Act.put, List.setIfInBounds_toArray, List.set_cons_zero, List.set_cons_succ]
    refine take_at (i := 14) (v := undef) (some 19) rfl rfl (by kernel_rfl) (by kernel_rfl) (by kernel_rfl) (fun _ _ _ h => h) (Or.inr ⟨by rfl, rfl⟩) (by assumption) ?_
    simp only [Act.put, List.setIfInBounds_toArray, List.set_cons_zero, List.set_cons_succ]
    refine take_at (i := 15) (v := undef) (some 20) rfl rfl (by kernel_rfl) (by kernel_rfl) (by kernel_rfl) (fun _ _ _ h => h) (Or.inr ⟨by rfl, rfl⟩) (by assumption) ?_
    simp only [Act.put, List.setIfInBounds_toArray, List.set_cons_zero, List.set_cons_succ]
    refine take_at (i := 16) (v := ?_) (some 21) rfl rfl (by kernel_rfl) (by kernel_rfl) (by kernel_rfl) (fun _ _ _ h => h) (Or.inl ⟨by rfl, ?_⟩) (by assumption) ?_
    rotate_left
    · (intro w hSw; (try dsimp only at hSw); go_simp; try with_reducible rfl)
    simp only [Act.put, List.setIfInBounds_toArray, List.set_cons_zero, List.set_cons_succ]
    refine take_at (i := 17) (v := ?_) (some 22) rfl rfl (by kernel_rfl) (by kernel_rfl) (by kernel_rfl) (fun _ _ _ h => h) (Or.inl ⟨by rfl, ?_⟩) (by assumption) ?_
    rotate_left
    · (intro w hSw; (try dsimp only at hSw); go_simp; try with_reducible rfl)
    simp only [Act.put, List.setIfInBounds_toArray, List.set_cons_zero, List.set_cons_succ]
    refine take_at (i := 18) (v := undef) (some 23) rfl rfl (by kernel_rfl) (by kernel_rfl) (by kernel_rfl) (fun _ _ _ h => h) (Or.inr ⟨by rfl, rfl⟩) (by assumption) ?_
    simp only [Act.put, List.setIfInBounds_toArray, List.set_cons_zero, List.set_cons_succ]
    refine take_at (i := 19) (v := undef) (some 24) rfl rfl (by kernel_rfl) (by kernel_rfl) (by kernel_rfl) (fun _ _ _ h => h) (Or.inr ⟨by rfl, rfl⟩) (by assumption) ?_
    simp only [Act.put, List.setIfInBounds_toArray, List.set_cons_zero, List.set_cons_succ]
    refine take_at (i := 20) (v := undef) (some 25) rfl rfl (by kernel_rfl) (by kernel_rfl) (by kernel_rfl) (fun _ _ _ h => h) (Or.inr ⟨by rfl, rfl⟩) (by assumption) ?_
    simp only [Act.put, List.setIfInBounds_toArray, List.set_cons_zero, List.set_cons_succ]
    refine take_at (i := 21) (v := ?_) (some 26) rfl rfl (by kernel_rfl) (by kernel_rfl) (by kernel_rfl) (fun _ _ _ h => h) (Or.inl ⟨by rfl, ?_⟩) (by assumption) ?_
    rotate_left
    · (intro w hSw; (try dsimp only at hSw); go_simp; try with_reducible rfl)
    simp only [Act.put, List.setIfInBounds_toArray, List.set_cons_zero, List.set_cons_succ]
    refine take_at (i := 22) (v := ?_) (some 4) rfl rfl (by kernel_rfl) (by kernel_rfl) (by kernel_rfl) (fun _ _ _ h => h) (Or.inl ⟨by rfl, ?_⟩) (by assumption) ?_
    rotate_left
    · (intro w hSw; (try dsimp only at hSw); go_simp; try with_reducible rfl)
    simp only [Act.put, List.setIfInBounds_toArray, List.set_cons_zero, List.set_cons_succ]
    refine wpAnyH_done (by kernel_rfl) ?_ _
    refine NoPanic.normal ?_
    go_wp2_with fail
    go_ret
    exact ⟨rfl, E1.out.drew⟩
theorem asked_ok (w0 W : World) (g d n b mm s m : Nat) (v : Value) (D : Dsk) (p q : Int) (h : GAt W g d n b v mm) (hS : St w0 W d s m D) (hf : D.free) : Calls Tryz.prog 153 #[.pointer (some ⟨g, 0, none⟩), .agg (twoC p q).toArray] W fun e w' => e = .returned (.int .i64 (if OfG n p q then 0 else 2)) ∧ Below W.heap.size W w' := by
  have HG := hidIt h
  have HS := hidIt (And.intro hS hf)
  clear h hS hf
  by_cases c : OfG n p q
  · rw [if_pos c]
    have HH : Hid (∀ u, Below W.heap.size W u → Calls Tryz.prog 189 #[.pointer (some ⟨g, 0, none⟩), .agg (twoC p q).toArray] u fun e w' => e = .returned (.bool true) ∧ Below u.heap.size u w') := fun u hB => by
      have := ghas_any u g d n b mm v p q (HG.out.below hB)
      rwa [decide_eq_true c] at this
    clear c
    go_enter Tryz.func153, Tryz.ntmps153
    go_wp2_with (first
      | (refine wpList_box_rec rfl 57 (.tmp 1) rfl (twoC p q) rfl W.heap.size rfl ?_; intro W1 R1 B1 z1; have E1 := hidIt B1; have R11 := hidIt R1; clear R1 B1 z1)
      | (go_at_call 119; refine (gready_ok w0 W1 g d n b mm s m v D (HG.out.below E1.out) (HS.out.1.below E1.out) HS.out.2).mono ?_; rintro e w2 ⟨rfl, hB⟩; have E2 := hidIt (below_sh (Nat.le_refl _) E1.out hB); have R12 := hidIt (R11.out.below hB); clear hB E1 R11)
      | (refine wpList_load_rec rfl 57 (.tmp 3) rfl W.heap.size 0 (twoC p q) rfl _ Tryz.underlying57 rfl (by kernel_rfl) R12.out ?_)
      | (go_at_call 189; refine (HH.out _ E2.out).mono ?_; rintro e w3 ⟨rfl, hB⟩; have E3 := hidIt (below_sh (Nat.le_refl _) E2.out hB); clear hB E2))
    go_ret
    exact ⟨rfl, E3.out⟩
  · rw [if_neg c]
    have HH : Hid (∀ u, Below W.heap.size W u → Calls Tryz.prog 189 #[.pointer (some ⟨g, 0, none⟩), .agg (twoC p q).toArray] u fun e w' => e = .returned (.bool false) ∧ Below u.heap.size u w') := fun u hB => by
      have := ghas_any u g d n b mm v p q (HG.out.below hB)
      rwa [decide_eq_false c] at this
    clear c
    go_enter Tryz.func153, Tryz.ntmps153
    go_wp2_with (first
      | (refine wpList_box_rec rfl 57 (.tmp 1) rfl (twoC p q) rfl W.heap.size rfl ?_; intro W1 R1 B1 z1; have E1 := hidIt B1; have R11 := hidIt R1; clear R1 B1 z1)
      | (go_at_call 119; refine (gready_ok w0 W1 g d n b mm s m v D (HG.out.below E1.out) (HS.out.1.below E1.out) HS.out.2).mono ?_; rintro e w2 ⟨rfl, hB⟩; have E2 := hidIt (below_sh (Nat.le_refl _) E1.out hB); have R12 := hidIt (R11.out.below hB); clear hB E1 R11)
      | (refine wpList_load_rec rfl 57 (.tmp 3) rfl W.heap.size 0 (twoC p q) rfl _ Tryz.underlying57 rfl (by kernel_rfl) R12.out ?_)
      | (go_at_call 189; refine (HH.out _ E2.out).mono ?_; rintro e w3 ⟨rfl, hB⟩; have E3 := hidIt (below_sh (Nat.le_refl _) E2.out hB); clear hB E2))
    go_ret
    exact ⟨rfl, E3.out⟩
end Go.Proofs.YtblphlcnbnklmaaGreatDoor
namespace Go.Proofs.YtblphlcnbnklmaaGreatDoor
open Go.RowKit Go.Maps
theorem laid_outI : laidOutB Tryz.prog = true := by kernel_rfl
theorem row_ref : (57 : TypeId) < Tryz.prog.types.size := of_decide_eq_true (by kernel_rfl)
theorem wide_ref : (match Tryz.prog.underlying 57 with | some (.array _ _) | some (.struct _) => true | _ => false) = true := by kernel_rfl
set_option maxRecDepth 100000 in
theorem law_ref : WideMaps.KeyLaw Tryz.prog 57 := deep_law_laid laid_outI (m := 3) (by omega) row_ref (by kernel_rfl) wide_ref
theorem keyed_ref : Keyed Tryz.prog 57 := Keyed.of_law law_ref
theorem keytype_ref : Tryz.prog.keyType 57 = true := by kernel_rfl
/-- A number of 64 bits. -/
def I64 (x : Int) : Prop := -9223372036854775808 ≤ x ∧ x < 9223372036854775808
theorem wf_int (x : Int) (h : I64 x) : (Lit.int .i64 x).wf = true := by
  unfold I64 at h
  simp [Lit.wf, IntKind.min, IntKind.max, IntKind.signed, IntKind.bits]
  omega
end Go.Proofs.YtblphlcnbnklmaaGreatDoor

namespace Go.Proofs.YtblphlcnbnklmaaGreatDoor
open Go.RowKit Go.Maps
/-- The key of a ref. -/
def keyR (p q : Int) : Lit := .string (keyBytes [.int .i64 p, .int .i64 q])
theorem cells_ref : Tryz.prog.cellsOf 57 = 2 := by kernel_rfl
theorem cells_int : Tryz.prog.cellsOf 3 = 1 := by kernel_rfl
theorem lits_int (d : Nat) (x : Int) (h : I64 x) : Tryz.prog.keyLits (d + 1) 3 [.int .i64 x] = some [.int .i64 x] := by
  unfold Program.keyLits
  rw [Tryz.underlying3]
  simp only
  rw [if_pos ⟨trivial, wf_int x h⟩]
set_option maxRecDepth 100000 in
theorem lits_ref (d : Nat) (p q : Int) (hp : I64 p) (hq : I64 q) : Tryz.prog.keyLits (d + 2) 57 (twoC p q) = some [.int .i64 p, .int .i64 q] := by
  unfold Program.keyLits
  rw [Tryz.underlying57]
  simp only
  rw [if_pos ⟨by rw [cells_ref]; rfl, by kernel_rfl⟩]
  simp only [List.mapM_cons, List.mapM_nil, cells_int]
  rw [show List.take 1 (List.drop 0 (twoC p q)) = [.int .i64 p] from rfl, show List.take 1 (List.drop 1 (twoC p q)) = [.int .i64 q] from rfl, lits_int d p hp, lits_int d q hq]
  rfl
set_option maxRecDepth 100000 in
theorem key_ref (p q : Int) (hp : I64 p) (hq : I64 q) : keyOf Tryz.prog 57 (.agg (twoC p q).toArray) = some (keyR p q) := by
  have hfo : (Value.agg (twoC p q).toArray).formed Tryz.prog 57 = true := by
    simp only [Value.formed, Tryz.underlying57, cells_ref, List.size_toArray]
    rfl
  obtain ⟨d, hd⟩ : ∃ d, Tryz.prog.types.size + 1 = d + 2 := ⟨Tryz.prog.types.size - 1, by have : 0 < Tryz.prog.types.size := Nat.lt_of_le_of_lt (Nat.zero_le _) row_ref; omega⟩
  unfold keyOf
  rw [Tryz.underlying57]
  simp only
  rw [keytype_ref, hfo, hd]
  simp only [Bool.and_self, if_true]
  rw [show (Value.agg (twoC p q).toArray).cells.toList = twoC p q from rfl, lits_ref d p q hp hq]
  rfl
theorem keyR_inj {p q p' q' : Int} (hp : I64 p) (hq : I64 q) (hp' : I64 p') (hq' : I64 q') (h : keyR p q = keyR p' q') : p = p' ∧ q = q' := by
  have h1 := key_ref p q hp hq
  have h2 := key_ref p' q' hp' hq'
  rw [← h] at h2
  have e := keyed_ref.inj h1 h2
  simpa [twoC] using e
theorem keyR_lit (p q : Int) : WideAt.IsKeyLit (keyR p q) := trivial
theorem zero_unit (w : World) : (zeroValue 256).run Tryz.prog w = .ok (.agg #[]) w := by
  have h : (Tryz.prog.info? 256).bind (·.zero) = some (.agg #[]) := by kernel_rfl
  cases hi : Tryz.prog.info? 256 with
  | none => simp [hi] at h
  | some i =>
    have hz : i.zero = some (.agg #[]) := by simpa [hi] using h
    simp [zeroValue, typeInfo, hi, hz]
theorem lookR (W : World) (m n : Nat) (D : DataW Value) (p q : Int) (h : OwnsR W m n D) (hp : I64 p) (hq : I64 q) : (Instr.lookup 67 (.map (some m)) (.agg (twoC p q).toArray) true).run Tryz.prog W = .ok (.tuple #[.agg #[], .bool (has D (keyR p q))]) W := by
  obtain ⟨v, ps, hr, hv⟩ := h.look_ok keyed_ref Tryz.underlying67 (zero_unit W) (zd := .agg []) (zp := []) unitElem_mk (key_ref p q hp hq)
  obtain ⟨rfl, _⟩ := unitElem_inv hv
  exact hr
theorem look_run {o : Oper} {a : Act} {w : World} (t : TypeId) (m x : Operand) (hop : o.op = .lookup t m x true) (M X : Value) (hm : a.eval m = M) (hx : a.eval x = X) {v : Value} (hr : (Instr.lookup t M X true).run Tryz.prog w = .ok v w) :
    (execOp a.eval o).run Tryz.prog w = .ok (.value v) w := by
  simp [execOp, hop, hm, hx, hr, Result.andThen]
theorem unit_alloc {o : Oper} {a : Act} {w : World} (ho : o.op = .alloc 256) :
    (execOp a.eval o).run Tryz.prog w = .ok (.value (.pointer (some ⟨w.heap.size, 0, none⟩))) (w.alloc (.cells #[] 256)) := by
  unfold execOp
  have h := zero_unit w
  simp only [ho]
  simp [Instr.alloc, h, newVar, newRow, Value.cells, Result.andThen]
theorem unit_store {o : Oper} {a : Act} {w : World} (x v : Operand) (ho : o.op = .store 256 x v) (A : Addr) (hx : a.eval x = .pointer (some A)) (hv : a.eval v = .agg #[]) :
    (execOp a.eval o).run Tryz.prog w = .ok .skip w := by
  unfold execOp
  simp only [ho, hx, hv]
  simp [Instr.storeAt, Instr.sureAddr, storeVar, storeCells, Value.cells, Result.andThen]
theorem bs_runI {a : Act} {w : World} {o : Oper} (t e : TypeId) (len : Nat) (parts : Array (Nat × Operand)) (ho : o.op = .buildSlice t len parts) (sz by' : Nat) (z : Value) (cells : Array Value) (vs : List (Nat × Value))
    (hu : Tryz.prog.underlying t = some (.slice e)) (hinfo : (Tryz.prog.info? e).map (fun i => (i.zero, i.size, i.bytes)) = some (some z, sz, by')) (hsmall : ¬ len * sz > 2 ^ 24) (hpos : ¬ len * sz = 0)
    (hv : (parts.map fun (i, x) => (i, a.eval x)).toList = vs) (hf : Instr.fill (fun i => some (i * sz, sz)) ((Array.range (len * sz)).map (z.cells[· % z.cells.size]!)) vs = some cells) :
    (execOp a.eval o).run Tryz.prog w = .ok (.value (.slice (some ⟨w.heap.size, 0, none⟩) len len)) (w.alloc (.cells cells e)) := by
  obtain ⟨ie, hie, hz0, hz1, _⟩ := info_parts hinfo
  unfold execOp
  simp only [ho, Sem.run_bind, run_buildSlice w t e len _ cells ie z hu hie hz0 (by rw [hz1]; exact hsmall) (by rw [hz1]; exact hpos) (by rw [hv, hz1]; exact hf), Result.andThen_ok]
  rfl
theorem OwnI.base {w : World} {base base' : Nat} {e : TypeId} {z : Nat} {v : Value} {n : Nat} {F : Nat → Int} (h : OwnI w base e z v n F) (hb : base' ≤ base) : OwnI w base' e z v n F := by
  refine ⟨h.1, ?_⟩
  rcases h.2 with h0 | ⟨g, cap, cur, hv, hg, rest⟩
  · exact .inl h0
  · exact .inr ⟨g, cap, cur, hv, Nat.le_trans hb hg, rest⟩
theorem ref_info : (Tryz.prog.info? 57).map (fun i => (i.zero, i.size, i.bytes)) = some (some (.agg (twoC 0 0).toArray), 2, 16) := by kernel_rfl
theorem app_runI {o : Oper} {a : Act} {w : World} (s x : Operand) (t : TypeId) (ho : o.op = .call { callee := .builtin .append, args := #[s, x], argTypes := #[t, t] }) (V X : Value) (hs : a.eval s = V) (hx : a.eval x = X) {v' : Value} {w' : World} (hr : (Builtin.append_ #[t, t] o.type #[V, X]).run Tryz.prog w = .ok v' w') :
    (execOp a.eval o).run Tryz.prog w = .ok (.value v') w' := by
  simp [execOp, ho, resolve, invoke, builtin, hs, hx, hr, Result.andThen]
/-- A ref is wanted where none was. -/
def AdPost (W : World) (g d n b mm : Nat) (p q : Int) (e : Ending) (w' : World) : Prop := e = .returned (.tuple #[]) ∧ ∃ x cap, GAt w' g d n b (.slice (some ⟨x, 0, none⟩) 1 cap) mm ∧ W.heap.size ≤ x ∧ OwnI w' W.heap.size 57 2 (.slice (some ⟨x, 0, none⟩) 1 cap) 1 (fun j => if j = 0 then p else q) ∧ OwnsR w' mm 1 ((DataW.map []).put (keyR p q) (.agg [])) ∧ Off [g, mm] W w'
set_option maxRecDepth 100000 in
set_option maxHeartbeats 2000000 in
theorem add_first (W : World) (g d n b mm : Nat) (p q : Int) (hG : GAt W g d n b (.slice none 0 0) mm) (hM : OwnsR W mm 0 (.map [])) (hne : g ≠ mm) (hp : I64 p) (hq : I64 q) :
    Calls Tryz.prog 155 #[.pointer (some ⟨g, 4, none⟩), .agg (twoC p q).toArray] W (AdPost W g d n b mm p q) := by
  have HG := hidIt hG
  have HM := hidIt hM
  have HP := hidIt (And.intro hp hq)
  have HN := hidIt (And.intro hne (And.intro hG.2.2 hM.lt))
  clear hG hM hne hp hq
  go_enter Tryz.func155, Tryz.ntmps155
  go_wp2_with (first
    | (refine wpList_box_rec rfl 57 (.tmp 1) rfl (twoC p q) rfl W.heap.size rfl ?_; intro W1 R1 B1 z1))
  have G1 := hidIt (HG.out.below B1)
  have M1 := hidIt (HM.out.below B1)
  have E1 := hidIt (And.intro B1 z1)
  have P1 := hidIt R1
  clear R1 B1 z1
  refine wp_region_noPanic ?_
  refine wp_region_held_drew (S := fun W' => W'.cell? ⟨g, 5, none⟩ = some (.map (some mm)) ∧ W'.rangeAt W.heap.size 0 (twoC p q) ∧ OwnsR W' mm 0 (.map [])) (by kernel_rfl) ?_ (fun hHeld => ?_)
  · exact ⟨G1.out.c5, P1.out.1, M1.out⟩
  refine take_at (i := 0) (v := ?_) (some 7) rfl rfl (by kernel_rfl) (by kernel_rfl) (by kernel_rfl) (fun _ _ _ h => h) (Or.inl ⟨by rfl, ?_⟩) (by assumption) ?_
  rotate_left
  · (intro w hSw; (try dsimp only at hSw); (try obtain ⟨q1, q2, q3⟩ := hSw); (try clear q3); (try clear q2); go_simp; try with_reducible rfl)
  simp only [Act.put, List.setIfInBounds_toArray, List.set_cons_zero, List.set_cons_succ]
  refine take_at (i := 1) (v := ?_) (some 8) rfl rfl (by kernel_rfl) (by kernel_rfl) (by kernel_rfl) (fun _ _ _ h => h) (Or.inl ⟨by rfl, ?_⟩) (by assumption) ?_
  rotate_left
  · (intro w hSw; (try dsimp only at hSw); (try obtain ⟨q1, q2, q3⟩ := hSw); (try clear q3); (try clear q2); go_simp; try with_reducible rfl)
  simp only [Act.put, List.setIfInBounds_toArray, List.set_cons_zero, List.set_cons_succ]
  refine take_at (i := 2) (v := ?_) (some 9) rfl rfl (by kernel_rfl) (by kernel_rfl) (by kernel_rfl) (fun _ _ _ h => h) (Or.inl ⟨by rfl, ?_⟩) (by assumption) ?_
  rotate_left
  · (intro w hSw; (try dsimp only at hSw); (try obtain ⟨q1, q2, q3⟩ := hSw); (try clear q3); (try clear q2); go_simp; try with_reducible rfl)
  simp only [Act.put, List.setIfInBounds_toArray, List.set_cons_zero, List.set_cons_succ]
  refine take_at (i := 3) (v := ?_) (some 10) rfl rfl (by kernel_rfl) (by kernel_rfl) (by kernel_rfl) (fun _ _ _ h => h) (Or.inl ⟨by rfl, ?_⟩) (by assumption) ?_
  rotate_left
  · (intro w hSw; (try dsimp only at hSw); (try obtain ⟨q1, q2, q3⟩ := hSw); (try clear q3); (try clear q2); go_simp; try with_reducible rfl)
  simp only [Act.put, List.setIfInBounds_toArray, List.set_cons_zero, List.set_cons_succ]
  refine take_at (i := 4) (v := _) (some 11) rfl rfl (by kernel_rfl) (by kernel_rfl) (by kernel_rfl) (fun _ _ _ h => h) (yieldsIf_load_mid (by rfl) 57 (.tmp 3) rfl W.heap.size 0 rfl (twoC p q) _ (fun _ h => h.2.1) Tryz.underlying57 rfl (by kernel_rfl)) (by assumption) ?_
  simp only [Act.put, List.setIfInBounds_toArray, List.set_cons_zero, List.set_cons_succ]
  refine take_at (i := 5) (v := .tuple #[.agg #[], .bool false]) (some 12) rfl rfl (by kernel_rfl) (by kernel_rfl) (by kernel_rfl) (fun _ _ _ h => h) (Or.inl ⟨by rfl, fun w hSw => look_run 67 (.tmp 10) (.tmp 11) rfl _ _ rfl rfl (lookR w mm 0 (.map []) p q hSw.2.2 HP.out.1 HP.out.2)⟩) (by assumption) ?_
  simp only [Act.put, List.setIfInBounds_toArray, List.set_cons_zero, List.set_cons_succ]
  refine take_at (i := 6) (v := ?_) (some 6) rfl rfl (by kernel_rfl) (by kernel_rfl) (by kernel_rfl) (fun _ _ _ h => h) (Or.inl ⟨by rfl, ?_⟩) (by assumption) ?_
  rotate_left
  · (intro w hSw; (try dsimp only at hSw); (try obtain ⟨q1, q2, q3⟩ := hSw); (try clear q3); (try clear q2); go_simp; try with_reducible rfl)
  simp only [Act.put, List.setIfInBounds_toArray, List.set_cons_zero, List.set_cons_succ]
  refine take_at (i := 7) (v := ?_) (some 13) rfl rfl (by kernel_rfl) (by kernel_rfl) (by kernel_rfl) (fun _ _ _ h => h) (Or.inl ⟨by rfl, ?_⟩) (by assumption) ?_
  rotate_left
  · (intro w hSw; (try dsimp only at hSw); (try obtain ⟨q1, q2, q3⟩ := hSw); (try clear q3); (try clear q2); go_simp; try with_reducible rfl)
  simp only [Act.put, List.setIfInBounds_toArray, List.set_cons_zero, List.set_cons_succ]
  refine take_at (i := 8) (v := ?_) (some 14) rfl rfl (by kernel_rfl) (by kernel_rfl) (by kernel_rfl) (fun _ _ _ h => h) (Or.inl ⟨by rfl, ?_⟩) (by assumption) ?_
  rotate_left
  · (intro w hSw; (try dsimp only at hSw); (try obtain ⟨q1, q2, q3⟩ := hSw); (try clear q3); (try clear q2); go_simp; try with_reducible rfl)
  simp only [Act.put, List.setIfInBounds_toArray, List.set_cons_zero, List.set_cons_succ]
  have A2 : Below W1.heap.size W1 (W1.drew.alloc (.cells #[] 256)) := (Below.refl _ _).drew.alloc (Nat.le_refl _) _
  refine step_at (i := 9) (some 4) rfl rfl (by rfl) (by kernel_rfl) _ _ (unit_alloc rfl) ⟨(G1.out.below A2).c5, (P1.out.below A2).1, M1.out.below A2⟩ (fun hHeld => ?_)
  simp only [Act.put, List.setIfInBounds_toArray, List.set_cons_zero, List.set_cons_succ]
  refine mute_at (i := 10) none rfl rfl (by rfl) (by kernel_rfl) _ (unit_store (.tmp 4) (.tmp 13) rfl _ rfl rfl) ⟨(G1.out.below A2).c5, (P1.out.below A2).1, M1.out.below A2⟩ (fun hHeld => ?_)
  simp only [Act.put]
  refine take_at (i := 11) (v := ?_) (some 5) rfl rfl (by kernel_rfl) (by kernel_rfl) (by kernel_rfl) (fun _ _ _ h => h) (Or.inl ⟨by rfl, ?_⟩) (by assumption) ?_
  rotate_left
  · (intro w hSw; (try dsimp only at hSw); (try obtain ⟨q1, q2, q3⟩ := hSw); (try clear q3); (try clear q2); go_simp; try with_reducible rfl)
  simp only [Act.put, List.setIfInBounds_toArray, List.set_cons_zero, List.set_cons_succ]
  refine wpAnyH_done (by kernel_rfl) ?_ _
  refine NoPanic.normal ?_
  have E2 : Hid (Below W.heap.size W (W1.drew.alloc (.cells #[] 256)) ∧ W.heap.size < (W1.drew.alloc (.cells #[] 256)).heap.size) := ⟨below_sh (Nat.le_refl _) E1.out.1 A2, by have := E1.out.2; have := A2.size; omega⟩
  have G2 := hidIt (G1.out.below A2)
  have P2 := hidIt (P1.out.below A2)
  have M2 := hidIt (M1.out.below A2)
  clear hHeld A2 G1 P1 M1 E1
  generalize (W1.drew.alloc (.cells #[] 256)) = W2 at E2 G2 P2 M2 ⊢
  go_wp2_with fail
  obtain ⟨W3, hr3, M3, t3⟩ := World.ownsMap.store (w := W2.drew) (M2.out.below (Below.refl _ _).drew) keyed_ref Tryz.underlying67 (by unfold maxLen; omega) (key_ref p q HP.out.1 HP.out.2) (val := .agg #[]) (d := .agg []) (ps := []) unitElem_mk
  have O3 : Off [mm] W2.drew W3 := Off.grown t3.grown (fun r e => by cases e; simp)
  have G3 := hidIt ((G2.out.below (Below.refl _ _).drew).off O3 (by have := HN.out; simp; omega))
  have P3 := hidIt ((P2.out.below (Below.refl _ _).drew).off O3 (by have := HN.out; simp; omega))
  refine wp_region_noPanic ?_
  refine wp_region_held_drew (S := fun W' => W'.cell? ⟨g, 5, none⟩ = some (.map (some mm)) ∧ W'.rangeAt W.heap.size 0 (twoC p q) ∧ True) (by kernel_rfl) ?_ (fun hHeld => ?_)
  · exact ⟨G2.out.c5, P2.out.1, trivial⟩
  refine take_at (i := 0) (v := ?_) (some 16) rfl rfl (by kernel_rfl) (by kernel_rfl) (by kernel_rfl) (fun _ _ _ h => h) (Or.inl ⟨by rfl, ?_⟩) (by assumption) ?_
  rotate_left
  · (intro w hSw; (try dsimp only at hSw); (try obtain ⟨q1, q2, q3⟩ := hSw); (try clear q3); (try clear q2); go_simp; try with_reducible rfl)
  simp only [Act.put, List.setIfInBounds_toArray, List.set_cons_zero, List.set_cons_succ]
  refine take_at (i := 1) (v := ?_) (some 17) rfl rfl (by kernel_rfl) (by kernel_rfl) (by kernel_rfl) (fun _ _ _ h => h) (Or.inl ⟨by rfl, ?_⟩) (by assumption) ?_
  rotate_left
  · (intro w hSw; (try dsimp only at hSw); (try obtain ⟨q1, q2, q3⟩ := hSw); (try clear q3); (try clear q2); go_simp; try with_reducible rfl)
  simp only [Act.put, List.setIfInBounds_toArray, List.set_cons_zero, List.set_cons_succ]
  refine take_at (i := 2) (v := ?_) (some 18) rfl rfl (by kernel_rfl) (by kernel_rfl) (by kernel_rfl) (fun _ _ _ h => h) (Or.inl ⟨by rfl, ?_⟩) (by assumption) ?_
  rotate_left
  · (intro w hSw; (try dsimp only at hSw); (try obtain ⟨q1, q2, q3⟩ := hSw); (try clear q3); (try clear q2); go_simp; try with_reducible rfl)
  simp only [Act.put, List.setIfInBounds_toArray, List.set_cons_zero, List.set_cons_succ]
  refine take_at (i := 3) (v := ?_) (some 19) rfl rfl (by kernel_rfl) (by kernel_rfl) (by kernel_rfl) (fun _ _ _ h => h) (Or.inl ⟨by rfl, ?_⟩) (by assumption) ?_
  rotate_left
  · (intro w hSw; (try dsimp only at hSw); (try obtain ⟨q1, q2, q3⟩ := hSw); (try clear q3); (try clear q2); go_simp; try with_reducible rfl)
  simp only [Act.put, List.setIfInBounds_toArray, List.set_cons_zero, List.set_cons_succ]
  refine take_at (i := 4) (v := _) (some 20) rfl rfl (by kernel_rfl) (by kernel_rfl) (by kernel_rfl) (fun _ _ _ h => h) (yieldsIf_load_mid (by rfl) 57 (.tmp 3) rfl W.heap.size 0 rfl (twoC p q) _ (fun _ h => h.2.1) Tryz.underlying57 rfl (by kernel_rfl)) (by assumption) ?_
  simp only [Act.put, List.setIfInBounds_toArray, List.set_cons_zero, List.set_cons_succ]
  refine take_at (i := 5) (v := ?_) (some 21) rfl rfl (by kernel_rfl) (by kernel_rfl) (by kernel_rfl) (fun _ _ _ h => h) (Or.inl ⟨by rfl, ?_⟩) (by assumption) ?_
  rotate_left
  · (intro w hSw; (try dsimp only at hSw); (try obtain ⟨q1, q2, q3⟩ := hSw); (try clear q3); (try clear q2); go_simp; try with_reducible rfl)
  simp only [Act.put, List.setIfInBounds_toArray, List.set_cons_zero, List.set_cons_succ]
  refine mute_at (i := 6) none rfl rfl (by rfl) (by kernel_rfl) W3 (mapup_run 67 (.tmp 19) (.tmp 20) (.tmp 21) rfl _ _ _ rfl rfl rfl hr3) ⟨G3.out.c5, P3.out.1, trivial⟩ (fun hHeld => ?_)
  simp only [Act.put]
  refine wpAnyH_done (by kernel_rfl) ?_ _
  refine NoPanic.normal ?_
  have E3 : Hid (Off [g, mm] W W3 ∧ W.heap.size < W3.heap.size) := ⟨(Off.of (E2.out.1.drew)).trans (O3.mono (fun z hz => by simp at hz ⊢; omega)), P3.out.2.2⟩
  have M3' := hidIt M3
  clear hHeld O3 t3 hr3 M3 G2 P2 M2 E2
  go_wp2_with fail
  have c4 := G3.out.c4
  have f4 := G3.out.f 4 (by omega)
  obtain ⟨W5, hW5⟩ : ∃ W5, W3.drew.alloc (.cells (twoC p q).toArray 57) = W5 := ⟨_, rfl⟩
  have A5 : Below W3.heap.size W3 W5 := by rw [← hW5]; exact (Below.refl _ _).drew.alloc (Nat.le_refl _) _
  have n5 : ∀ j, j < 1 * 2 → W5.cell? ⟨W3.heap.size, 0 + j, none⟩ = some (.int .i64 ((fun j => if j = 0 then p else q) j)) := fun j hj => by
    rw [← hW5]
    show (W3.drew.alloc (.cells (twoC p q).toArray 57)).cell? ⟨W3.drew.heap.size, 0 + j, none⟩ = _
    rw [cell_of_row _ _ _ _ _ _ (heap_alloc_new _ _)]
    match j, hj with
    | 0, _ => rfl
    | 1, _ => rfl
  have z5 : W5.heap.size = W3.heap.size + 1 := by rw [← hW5]; exact World.size_alloc _ _
  obtain ⟨v6, W6, hr6, O6, B6⟩ := OwnI.app (W := W5) (base := W5.heap.size) (ty := 66) Tryz.underlying66 ref_info rfl (by omega) (by omega) (OwnI.nil W5 W5.heap.size 57 2 (fun _ => 0)) (C := 1) (n := 0) (m := 1) (G := fun j => if j = 0 then p else q) W3.heap.size 0 n5 (by omega) (Nat.le_refl _)
  have O6' := O6.congr (G := fun j => if j = 0 then p else q) (fun j hj => by unfold cat; rw [if_neg (by omega)]; rfl)
  obtain ⟨x, cap, rfl, hx, _, _, lx⟩ := O6'.form (by omega)
  have A6 : Below W3.heap.size W3 W6 := A5.trans (B6.mono (by omega))
  have G6 := hidIt (G3.out.below A6)
  have P6 := hidIt (P3.out.below A6)
  have M6 := hidIt (OwnsR.below M3'.out A6)
  have L6 := hidIt (And.intro O6' (And.intro hx lx))
  refine wp_region_noPanic ?_
  refine wp_region_held_drew (S := fun W' => W'.rangeAt W.heap.size 0 (twoC p q)) (by kernel_rfl) ?_ (fun hHeld => ?_)
  · exact P3.out.1
  refine take_at (i := 0) (v := ?_) (some 22) rfl rfl (by kernel_rfl) (by kernel_rfl) (by kernel_rfl) (fun _ _ _ h => h) (Or.inl ⟨by rfl, ?_⟩) (by assumption) ?_
  rotate_left
  · (intro w hSw; clear hSw; go_simp; try with_reducible rfl)
  simp only [Act.put, List.setIfInBounds_toArray, List.set_cons_zero, List.set_cons_succ]
  refine take_at (i := 1) (v := ?_) (some 23) rfl rfl (by kernel_rfl) (by kernel_rfl) (by kernel_rfl) (fun _ _ _ h => h) (Or.inl ⟨by rfl, ?_⟩) (by assumption) ?_
  rotate_left
  · (intro w hSw; clear hSw; go_simp; try with_reducible rfl)
  simp only [Act.put, List.setIfInBounds_toArray, List.set_cons_zero, List.set_cons_succ]
  refine take_at (i := 2) (v := ?_) (some 24) rfl rfl (by kernel_rfl) (by kernel_rfl) (by kernel_rfl) (fun _ _ _ h => h) (Or.inl ⟨by rfl, ?_⟩) (by assumption) ?_
  rotate_left
  · (intro w hSw; clear hSw; go_simp; try with_reducible rfl)
  simp only [Act.put, List.setIfInBounds_toArray, List.set_cons_zero, List.set_cons_succ]
  refine take_at (i := 3) (v := ?_) (some 25) rfl rfl (by kernel_rfl) (by kernel_rfl) (by kernel_rfl) (fun _ _ _ h => h) (Or.inl ⟨by rfl, ?_⟩) (by assumption) ?_
  rotate_left
  · (intro w hSw; clear hSw; go_simp; try with_reducible rfl)
  simp only [Act.put, List.setIfInBounds_toArray, List.set_cons_zero, List.set_cons_succ]
  refine take_at (i := 5) (v := _) (some 27) rfl rfl (by kernel_rfl) (by kernel_rfl) (by kernel_rfl) (fun _ _ _ h => h) (yieldsIf_load_mid (by rfl) 57 (.tmp 3) rfl W.heap.size 0 rfl (twoC p q) _ (fun _ h => h) Tryz.underlying57 rfl (by kernel_rfl)) (by assumption) ?_
  simp only [Act.put, List.setIfInBounds_toArray, List.set_cons_zero, List.set_cons_succ]
  have c6 := G6.out.c4
  have f6 := G6.out.f 4 (by omega)
  obtain ⟨W7, hW7⟩ : ∃ W7, W6.setCell ⟨g, 4, none⟩ (.slice (some ⟨x, 0, none⟩) 1 cap) = W7 := ⟨_, rfl⟩
  have hr7 : (Instr.storeAt 66 (.pointer (some ⟨g, 4, none⟩)) (.slice (some ⟨x, 0, none⟩) 1 cap)).run Tryz.prog W6 = .ok () W7 := by
    rw [← hW7]
    go_simp
  have B7 : But g W6 W7 := by rw [← hW7]; exact But.set _ _ _
  have G7 : GAt W7 g d n b (.slice (some ⟨x, 0, none⟩) 1 cap) mm := by rw [← hW7]; exact Rec19.put G6.out 4 _
  have hn := HN.out
  have z3 := E3.out.2
  have P7 : W7.rangeAt W.heap.size 0 (twoC p q) := (P6.out.but B7 (by omega)).1
  have FIN : Hid (AdPost W g d n b mm p q (.returned (.tuple #[])) W7) := by
    refine ⟨rfl, x, cap, G7, by omega, ?_, OwnsR.off M6.out (Off.but (bs := [g]) B7 (by simp)) (by simp; omega), ?_⟩
    · exact (OwnI.but (base := W5.heap.size) L6.out.1 B7 (by omega)).base (by omega)
    · exact (E3.out.1.trans (Off.of A6)).trans (Off.but B7 (by simp))
  have hb5 : ∀ u : Act, True := fun _ => trivial
  clear hb5
  refine pair_at (i := 4) (j := 6) (some 26) (some 28) rfl rfl rfl rfl (by kernel_rfl) (by rfl) (by rfl) (.slice none 0 0) (.slice (some ⟨W3.heap.size, 0, none⟩) 1 1) W3.drew W5 ?_ ?_ ⟨P3.out.1, (P3.out.below A5).1⟩ (fun hHeld => ?_) (fun hHeld => ?_)
  · go_simp
  · rw [← hW5]
    exact bs_runI 66 57 1 _ rfl 2 16 (.agg (twoC 0 0).toArray) (twoC p q).toArray _ Tryz.underlying66 ref_info (by omega) (by omega) rfl (by kernel_rfl)
  · simp only [Act.put, List.setIfInBounds_toArray, List.set_cons_zero, List.set_cons_succ]
    refine step_at (i := 6) (some 28) rfl rfl (by rfl) (by kernel_rfl) (.slice (some ⟨W3.heap.size, 0, none⟩) 1 1) W5 ?_ (P3.out.below A5).1 (fun hHeld => ?_)
    · rw [← hW5]
      exact bs_runI 66 57 1 _ rfl 2 16 (.agg (twoC 0 0).toArray) (twoC p q).toArray _ Tryz.underlying66 ref_info (by omega) (by omega) rfl (by kernel_rfl)
    simp only [Act.put, List.setIfInBounds_toArray, List.set_cons_zero, List.set_cons_succ]
    refine step_at (i := 7) (some 29) rfl rfl (by rfl) (by kernel_rfl) (.slice (some ⟨x, 0, none⟩) 1 cap) W6 (app_runI (.tmp 26) (.tmp 28) 66 rfl _ _ rfl rfl hr6) P6.out.1 (fun hHeld => ?_)
    simp only [Act.put, List.setIfInBounds_toArray, List.set_cons_zero, List.set_cons_succ]
    refine take_at (i := 8) (v := ?_) (some 30) rfl rfl (by kernel_rfl) (by kernel_rfl) (by kernel_rfl) (fun _ _ _ h => h) (Or.inl ⟨by rfl, ?_⟩) (by assumption) ?_
    rotate_left
    · (intro w hSw; clear hSw; go_simp; try with_reducible rfl)
    simp only [Act.put, List.setIfInBounds_toArray, List.set_cons_zero, List.set_cons_succ]
    refine take_at (i := 9) (v := ?_) (some 31) rfl rfl (by kernel_rfl) (by kernel_rfl) (by kernel_rfl) (fun _ _ _ h => h) (Or.inl ⟨by rfl, ?_⟩) (by assumption) ?_
    rotate_left
    · (intro w hSw; clear hSw; go_simp; try with_reducible rfl)
    simp only [Act.put, List.setIfInBounds_toArray, List.set_cons_zero, List.set_cons_succ]
    refine mute_at (i := 10) none rfl rfl (by rfl) (by kernel_rfl) W7 (put_mute 66 (.tmp 31) (.tmp 29) rfl _ _ rfl rfl hr7) P7 (fun hHeld => ?_)
    simp only [Act.put]
    refine wpAnyH_done (by kernel_rfl) ?_ _
    refine NoPanic.normal ?_
    go_wp2_with fail
    go_end0
    exact FIN.out
  · simp only [Act.put, List.setIfInBounds_toArray, List.set_cons_zero, List.set_cons_succ]
    have c5 := (G3.out.below A5).c4
    refine step_at (i := 4) (some 26) rfl rfl (by rfl) (by kernel_rfl) (.slice none 0 0) W5 ?_ (P3.out.below A5).1 (fun hHeld => ?_)
    · go_simp
    simp only [Act.put, List.setIfInBounds_toArray, List.set_cons_zero, List.set_cons_succ]
    refine step_at (i := 7) (some 29) rfl rfl (by rfl) (by kernel_rfl) (.slice (some ⟨x, 0, none⟩) 1 cap) W6 (app_runI (.tmp 26) (.tmp 28) 66 rfl _ _ rfl rfl hr6) P6.out.1 (fun hHeld => ?_)
    simp only [Act.put, List.setIfInBounds_toArray, List.set_cons_zero, List.set_cons_succ]
    refine take_at (i := 8) (v := ?_) (some 30) rfl rfl (by kernel_rfl) (by kernel_rfl) (by kernel_rfl) (fun _ _ _ h => h) (Or.inl ⟨by rfl, ?_⟩) (by assumption) ?_
    rotate_left
    · (intro w hSw; clear hSw; go_simp; try with_reducible rfl)
    simp only [Act.put, List.setIfInBounds_toArray, List.set_cons_zero, List.set_cons_succ]
    refine take_at (i := 9) (v := ?_) (some 31) rfl rfl (by kernel_rfl) (by kernel_rfl) (by kernel_rfl) (fun _ _ _ h => h) (Or.inl ⟨by rfl, ?_⟩) (by assumption) ?_
    rotate_left
    · (intro w hSw; clear hSw; go_simp; try with_reducible rfl)
    simp only [Act.put, List.setIfInBounds_toArray, List.set_cons_zero, List.set_cons_succ]
    refine mute_at (i := 10) none rfl rfl (by rfl) (by kernel_rfl) W7 (put_mute 66 (.tmp 31) (.tmp 29) rfl _ _ rfl rfl hr7) P7 (fun hHeld => ?_)
    simp only [Act.put]
    refine wpAnyH_done (by kernel_rfl) ?_ _
    refine NoPanic.normal ?_
    go_wp2_with fail
    go_end0
    exact FIN.out
end Go.Proofs.YtblphlcnbnklmaaGreatDoor
namespace Go.Proofs.YtblphlcnbnklmaaGreatDoor
open Go.RowKit Go.Maps
/-- What find answers where what was asked is not there, and nothing was wanted. -/
def FdNo (W : World) (g d n b mm : Nat) (p q : Int) (v : Value) (e : Ending) (w' : World) : Prop := e = .returned v ∧ ∃ x cap, GAt w' g d n b (.slice (some ⟨x, 0, none⟩) 1 cap) mm ∧ W.heap.size ≤ x ∧ OwnI w' W.heap.size 57 2 (.slice (some ⟨x, 0, none⟩) 1 cap) 1 (fun j => if j = 0 then p else q) ∧ OwnsR w' mm 1 ((DataW.map []).put (keyR p q) (.agg [])) ∧ Off [g, mm] W w'
/-- What Read answers of what is there. -/
def RgOk (W : World) (s : Blk) (e : Ending) (w' : World) : Prop := ∃ g1 g2, e = .returned (.tuple #[blkV s (some ⟨g1, 0, none⟩) s.k (some ⟨g2, 0, none⟩) s.n, .int .i64 0]) ∧ TbGot W w' s g1 g2 ∧ Below W.heap.size W w'
set_option maxRecDepth 100000 in
set_option maxHeartbeats 2000000 in
theorem gfind_ok (w0 W : World) (g d s' m b mm n : Nat) (v : Value) (D : Dsk) (p q : Int) (s : Blk) (F : Nat → Int) (hS : St w0 W d s' m D) (hf : D.free) (hG : GAt W g d n b v mm) (hof : OfG n p q)
    (hL : ∀ u, Below W.heap.size W u → Calls Tryz.prog 154 #[.pointer (some ⟨g, 0, none⟩), .agg (twoC p q).toArray] u (LdOk u s F)) : Calls Tryz.prog 92 #[.pointer (some ⟨g, 0, none⟩), .agg (twoC p q).toArray] W (LdOk W s F) := by
  have AS : Hid (∀ u, Below W.heap.size W u → Calls Tryz.prog 153 #[.pointer (some ⟨g, 0, none⟩), .agg (twoC p q).toArray] u fun e w' => e = .returned (.int .i64 0) ∧ Below u.heap.size u w') := fun u hB => by
    have := asked_ok w0 u g d n b mm s' m v D p q (hG.below hB) (hS.below hB) hf
    rwa [if_pos hof] at this
  have HL := hidIt hL
  clear hS hf hG hof hL
  have T1 : Hid True := trivial
  have T2 : Hid True := trivial
  have L1 : Hid True := trivial
  go_enter Tryz.func92, Tryz.ntmps92
  go_wp2_with (first
    | (refine wpList_box_rec rfl 57 (.tmp 1) rfl (twoC p q) rfl W.heap.size rfl ?_; intro W1 R1 B1 z1)
    | (have _q := T1; clear T1; refine wpList_alloc_rec rfl 107 rfl (blkC blk0 none 0 none 0) (W.heap.size + 1) z1 zero_blk ?_; intro W2 R2 B2 z2
       have E2 := hidIt (B1.trans (B2.mono (by omega))); have P2 := hidIt (R1.below (by rw [z1]; exact B2)); have Q2 := hidIt R2; have Z2 := hidIt z2; clear R1 B1 z1 R2 B2 z2)
    | (have _q := Q2; have _p := L1; clear L1 _p; refine wpList_load_rec rfl 57 (.tmp 3) rfl W.heap.size 0 (twoC p q) rfl _ Tryz.underlying57 rfl (by kernel_rfl) P2.out ?_)
    | (go_at_call 153; refine (AS.out _ E2.out).mono ?_; rintro e w3 ⟨rfl, hB⟩; have E3 := hidIt (below_sh (Nat.le_refl _) E2.out hB); have P3 := hidIt (P2.out.below hB); have Q3 := hidIt (Q2.out.below hB); have Z3 : Hid (W.heap.size + 2 ≤ w3.heap.size) := hidIt (by have := Z2.out; have := hB.size; omega); clear hB E2 P2 Q2 Z2)
    | (have _q := Q3; refine wpList_load_rec rfl 57 (.tmp 3) rfl W.heap.size 0 (twoC p q) rfl _ Tryz.underlying57 rfl (by kernel_rfl) P3.out ?_; clear _q)
    | (go_at_call 154; refine (HL.out _ E3.out).mono ?_; rintro e w4 ⟨g1, g2, y, rfl, hK, hy, hI, hB⟩; unfold blkV; have E4 := hidIt (below_sh (Nat.le_refl _) E3.out hB); have Q4 := hidIt (Q3.out.below hB); have K4 := hidIt (And.intro (hK.mono (w0 := W) E3.out.size) (And.intro (Nat.le_trans E3.out.size hy) hI)); have Z4 : Hid (W.heap.size + 2 ≤ w4.heap.size ∧ w3.heap.size ≤ g1 ∧ w3.heap.size ≤ g2 ∧ w3.heap.size ≤ y ∧ g1 < w4.heap.size ∧ g2 < w4.heap.size ∧ y < w4.heap.size) := ⟨by have := Z3.out; have := hB.size; omega, hK.n1, hK.n2, hy, hK.l1, hK.row.2.2, hI.2.2⟩; clear hB hK hy hI E3 P3 Q3)
    | (have _q := K4; have _p := T2; clear T2 _p; refine wpList_alloc_rec rfl 107 rfl (blkC blk0 none 0 none 0) w4.heap.size rfl zero_blk ?_; intro W5 R5 B5 z5; have E5 := hidIt (below_sh (Nat.le_refl _) E4.out B5); have Q5 := hidIt (Q4.out.below B5); clear E4 Q4)
    | (refine wpList_store_rec rfl 107 (.tmp 8) (.tmp 22) rfl w4.heap.size 0 _ (blkC s (some ⟨g1, 0, none⟩) s.k (some ⟨g2, 0, none⟩) s.n) rfl rfl R5 rfl (by kernel_rfl) (blkC_one _ _ _ _ _) ?_; intro W6 R6 B6; have E6 := hidIt (E5.out.trans (B6.below (by have := Z4.out; omega) E5.out.size)); have Q6 := hidIt (Q5.out.but B6 (by have := Z4.out; omega)); have R66 := hidIt R6; have X6 := hidIt (B5.trans (B6.below (Nat.le_refl _) (by omega))); clear R5 R6 B5 B6 z5 E5 Q5)
    | (refine wpList_load_rec rfl 107 (.tmp 8) rfl w4.heap.size 0 (blkC s (some ⟨g1, 0, none⟩) s.k (some ⟨g2, 0, none⟩) s.n) rfl _ Tryz.underlying107 rfl (by kernel_rfl) R66.out ?_)
    | (refine wpList_store_rec rfl 107 (.tmp 4) (.tmp 32) rfl (W.heap.size + 1) 0 _ (blkC s (some ⟨g1, 0, none⟩) s.k (some ⟨g2, 0, none⟩) s.n) rfl rfl Q6.out rfl (by kernel_rfl) (blkC_one _ _ _ _ _) ?_; intro W7 R7 B7))
  have hl := R7.run_load 107 _ Tryz.underlying107 rfl (by kernel_rfl)
  have z4 := Z4.out
  have z3 := Z3.out
  refine bodyPost_ret (v := .tuple #[.agg (blkC s (some ⟨g1, 0, none⟩) s.k (some ⟨g2, 0, none⟩) s.n).toArray, .slice (some ⟨y, 0, none⟩) 1024 1024, .int .i64 0]) (by simp [results, Tryz.results92, asAddr, hl]) rfl ⟨g1, g2, y, rfl, (K4.out.1.belowI X6.out).but B7 (by omega) (by omega), K4.out.2.1, (K4.out.2.2.below X6.out).but B7 (by omega), E6.out.trans (B7.below (by omega) E6.out.size)⟩
set_option maxRecDepth 100000 in
set_option maxHeartbeats 2000000 in
theorem gfind_no (w0 W : World) (g d s' m b mm n : Nat) (D : Dsk) (p q : Int) (hS : St w0 W d s' m D) (hf : D.free) (hG : GAt W g d n b (.slice none 0 0) mm) (hM : OwnsR W mm 0 (.map [])) (hne : g ≠ mm) (hof : OfG n p q) (hp : I64 p) (hq : I64 q)
    (hL : ∀ u, Below W.heap.size W u → Calls Tryz.prog 154 #[.pointer (some ⟨g, 0, none⟩), .agg (twoC p q).toArray] u (LdNo u)) : Calls Tryz.prog 92 #[.pointer (some ⟨g, 0, none⟩), .agg (twoC p q).toArray] W (FdNo W g d n b mm p q (.tuple #[blkV blk0 none 0 none 0, .slice none 0 0, .int .i64 13])) := by
  have AS : Hid (∀ u, Below W.heap.size W u → Calls Tryz.prog 153 #[.pointer (some ⟨g, 0, none⟩), .agg (twoC p q).toArray] u fun e w' => e = .returned (.int .i64 0) ∧ Below u.heap.size u w') := fun u hB => by
    have := asked_ok w0 u g d n b mm s' m (.slice none 0 0) D p q (hG.below hB) (hS.below hB) hf
    rwa [if_pos hof] at this
  have HL := hidIt hL
  have HG := hidIt (And.intro hG (And.intro hM (And.intro hne (And.intro hp (And.intro hq (And.intro hG.2.2 hM.lt))))))
  clear hS hf hG hof hL hM hne hp hq
  have T1 : Hid True := trivial
  have T2 : Hid True := trivial
  have L1 : Hid True := trivial
  go_enter Tryz.func92, Tryz.ntmps92
  go_wp2_with (first
    | (refine wpList_box_rec rfl 57 (.tmp 1) rfl (twoC p q) rfl W.heap.size rfl ?_; intro W1 R1 B1 z1)
    | (have _q := T1; clear T1; refine wpList_alloc_rec rfl 107 rfl (blkC blk0 none 0 none 0) (W.heap.size + 1) z1 zero_blk ?_; intro W2 R2 B2 z2
       have E2 := hidIt (B1.trans (B2.mono (by omega))); have P2 := hidIt (R1.below (by rw [z1]; exact B2)); have Q2 := hidIt R2; have Z2 := hidIt z2; clear R1 B1 z1 R2 B2 z2)
    | (have _q := Q2; have _p := L1; clear L1 _p; refine wpList_load_rec rfl 57 (.tmp 3) rfl W.heap.size 0 (twoC p q) rfl _ Tryz.underlying57 rfl (by kernel_rfl) P2.out ?_)
    | (go_at_call 153; refine (AS.out _ E2.out).mono ?_; rintro e w3 ⟨rfl, hB⟩; have E3 := hidIt (below_sh (Nat.le_refl _) E2.out hB); have P3 := hidIt (P2.out.below hB); have Q3 := hidIt (Q2.out.below hB); have Z3 : Hid (W.heap.size + 2 ≤ w3.heap.size) := hidIt (by have := Z2.out; have := hB.size; omega); clear hB E2 P2 Q2 Z2)
    | (have _q := Q3; refine wpList_load_rec rfl 57 (.tmp 3) rfl W.heap.size 0 (twoC p q) rfl _ Tryz.underlying57 rfl (by kernel_rfl) P3.out ?_; clear _q)
    | (go_at_call 154; refine (HL.out _ E3.out).mono ?_; rintro e w4 ⟨rfl, hB⟩; unfold blkV; have E4 := hidIt (below_sh (Nat.le_refl _) E3.out hB); have Q4 := hidIt (Q3.out.below hB); have P4 := hidIt (P3.out.below hB); have Z4 : Hid (W.heap.size + 2 ≤ w4.heap.size) := hidIt (by have := Z3.out; have := hB.size; omega); clear hB E3 P3 Q3)
    | (have _q := Z4; have _p := T2; clear T2 _p; refine wpList_alloc_rec rfl 107 rfl (blkC blk0 none 0 none 0) w4.heap.size rfl zero_blk ?_; intro W5 R5 B5 z5; have E5 := hidIt (below_sh (Nat.le_refl _) E4.out B5); have Q5 := hidIt (Q4.out.below B5); have P5 := hidIt (P4.out.below B5); clear E4 Q4 P4 B5 z5)
    | (refine wpList_store_rec rfl 107 (.tmp 8) (.tmp 22) rfl w4.heap.size 0 _ (blkC blk0 none 0 none 0) rfl rfl R5 rfl (by kernel_rfl) (blkC_one _ _ _ _ _) ?_; intro W6 R6 B6; have E6 := hidIt (E5.out.trans (B6.below (by have := Z4.out; omega) E5.out.size)); have Q6 := hidIt (Q5.out.but B6 (by have := Z4.out; omega)); have P6 := hidIt (P5.out.but B6 (by have := Z4.out; omega)); have R66 := hidIt R6; clear R5 R6 B6 E5 Q5 P5))
  refine wp_region_noPanic ?_
  refine wp_region_held_drew (S := fun W' => W'.rangeAt W.heap.size 0 (twoC p q)) (by kernel_rfl) ?_ (fun hHeld => ?_)
  · exact P6.out.1
  refine take_at (i := 0) (v := ?_) (some 27) rfl rfl (by kernel_rfl) (by kernel_rfl) (by kernel_rfl) (fun _ _ _ h => h) (Or.inl ⟨by rfl, ?_⟩) (by assumption) ?_
  rotate_left
  · (intro w hSw; clear hSw; go_simp; try with_reducible rfl)
  simp only [Act.put, List.setIfInBounds_toArray, List.set_cons_zero, List.set_cons_succ]
  refine take_at (i := 1) (v := ?_) (some 28) rfl rfl (by kernel_rfl) (by kernel_rfl) (by kernel_rfl) (fun _ _ _ h => h) (Or.inl ⟨by rfl, ?_⟩) (by assumption) ?_
  rotate_left
  · (intro w hSw; clear hSw; go_simp; try with_reducible rfl)
  simp only [Act.put, List.setIfInBounds_toArray, List.set_cons_zero, List.set_cons_succ]
  refine take_at (i := 2) (v := ?_) (some 29) rfl rfl (by kernel_rfl) (by kernel_rfl) (by kernel_rfl) (fun _ _ _ h => h) (Or.inl ⟨by rfl, ?_⟩) (by assumption) ?_
  rotate_left
  · (intro w hSw; clear hSw; go_simp; try with_reducible rfl)
  simp only [Act.put, List.setIfInBounds_toArray, List.set_cons_zero, List.set_cons_succ]
  refine take_at (i := 3) (v := _) (some 30) rfl rfl (by kernel_rfl) (by kernel_rfl) (by kernel_rfl) (fun _ _ _ h => h) (yieldsIf_load_mid (by rfl) 57 (.tmp 3) rfl W.heap.size 0 rfl (twoC p q) _ (fun _ h => h) Tryz.underlying57 rfl (by kernel_rfl)) (by assumption) ?_
  simp only [Act.put, List.setIfInBounds_toArray, List.set_cons_zero, List.set_cons_succ]
  have E6' := E6.out.drew
  refine call_at (i := 4) (some 31) 155 _ _ rfl rfl rfl (by rfl) (by kernel_rfl) #[.pointer (some ⟨g, 4, none⟩), .agg (twoC p q).toArray] rfl Tryz.func155 (by kernel_rfl) (by kernel_rfl) ?_
  refine (add_first _ g d n b mm p q (HG.out.1.below E6') (OwnsR.below HG.out.2.1 E6') HG.out.2.2.1 HG.out.2.2.2.1 HG.out.2.2.2.2.1).mono ?_
  rintro e W7 ⟨rfl, x, cap, hG7, hx, hO7, hM7, hO⟩
  have ng := HG.out.2.2.2.2.2
  have z4 := Z4.out
  have P7 := hidIt ((P6.out.below (Below.refl _ _).drew).off hO (by simp; omega))
  refine ⟨_, rfl, P7.out.1, fun hHeld => ?_⟩
  simp only [Act.put, List.setIfInBounds_toArray, List.set_cons_zero, List.set_cons_succ]
  refine wpAnyH_done (by kernel_rfl) ?_ _
  refine NoPanic.normal ?_
  have Q7 := hidIt ((Q6.out.below (Below.refl _ _).drew).off hO (by simp; omega))
  have R77 := hidIt ((R66.out.below (Below.refl _ _).drew).off hO (by simp; omega))
  have zx : W6.heap.size ≤ x := hx
  have zw : w4.heap.size < W6.heap.size := R66.out.2.2
  have F7 : Hid (GAt W7 g d n b (.slice (some ⟨x, 0, none⟩) 1 cap) mm ∧ OwnI W7 W6.drew.heap.size 57 2 (.slice (some ⟨x, 0, none⟩) 1 cap) 1 (fun j => if j = 0 then p else q) ∧ OwnsR W7 mm 1 ((DataW.map []).put (keyR p q) (.agg [])) ∧ Off [g, mm] W W7) := ⟨hG7, hO7, hM7, (Off.of E6').trans hO⟩
  have Z7 := hidIt (And.intro zx zw)
  clear hHeld hG7 hO7 hM7 hO hx zx zw z4 ng P7
  go_wp2_with (first
    | (refine wpList_load_rec rfl 107 (.tmp 8) rfl w4.heap.size 0 (blkC blk0 none 0 none 0) rfl _ Tryz.underlying107 rfl (by kernel_rfl) R77.out ?_)
    | (refine wpList_store_rec rfl 107 (.tmp 4) (.tmp 32) rfl (W.heap.size + 1) 0 _ (blkC blk0 none 0 none 0) rfl rfl Q7.out rfl (by kernel_rfl) (blkC_one _ _ _ _ _) ?_; intro W8 R8 B8))
  have hl := R8.run_load 107 _ Tryz.underlying107 rfl (by kernel_rfl)
  have z4 := Z4.out
  have z7 := Z7.out
  have ng := HG.out.2.2.2.2.2
  obtain ⟨h1, h2, h3, h4⟩ := F7.out
  have zd : W6.drew.heap.size = W6.heap.size := rfl
  refine bodyPost_ret (v := .tuple #[.agg (blkC blk0 none 0 none 0).toArray, .slice none 0 0, .int .i64 13]) (by simp [results, Tryz.results92, asAddr, hl]) rfl ⟨rfl, x, cap, Rec19.but h1 B8 (by omega), by omega, (h2.but B8 (by omega)).base (by omega), OwnsR.off h3 (Off.but (bs := [W.heap.size + 1]) B8 (by simp)) (by simp; omega), h4.far (Off.but (bs := [W.heap.size + 1]) B8 (by simp)) (by simp)⟩
set_option maxRecDepth 100000 in
set_option maxHeartbeats 2000000 in
theorem gread_ok (W : World) (g : Nat) (p q : Int) (s : Blk) (F : Nat → Int)
    (hL : ∀ u, Below W.heap.size W u → Calls Tryz.prog 92 #[.pointer (some ⟨g, 0, none⟩), .agg (twoC p q).toArray] u (LdOk u s F)) : Calls Tryz.prog 139 #[.pointer (some ⟨g, 0, none⟩), .agg (twoC p q).toArray] W (RgOk W s) := by
  have HL := hidIt hL
  clear hL
  have T1 : Hid True := trivial
  have T2 : Hid True := trivial
  go_enter Tryz.func139, Tryz.ntmps139
  go_wp2_with (first
    | (refine wpList_box_rec rfl 57 (.tmp 1) rfl (twoC p q) rfl W.heap.size rfl ?_; intro W1 R1 B1 z1)
    | (have _q := T1; clear T1; refine wpList_alloc_rec rfl 107 rfl (blkC blk0 none 0 none 0) (W.heap.size + 1) z1 zero_blk ?_; intro W2 R2 B2 z2
       have E2 := hidIt (B1.trans (B2.mono (by omega))); have P2 := hidIt (R1.below (by rw [z1]; exact B2)); have Q2 := hidIt R2; have Z2 := hidIt z2; clear R1 B1 z1 R2 B2 z2)
    | (refine wpList_load_rec rfl 57 (.tmp 3) rfl W.heap.size 0 (twoC p q) rfl _ Tryz.underlying57 rfl (by kernel_rfl) P2.out ?_)
    | (go_at_call 92; refine (HL.out _ E2.out).mono ?_; rintro e w4 ⟨g1, g2, y, rfl, hK, _, _, hB⟩; unfold blkV; have E4 := hidIt (below_sh (Nat.le_refl _) E2.out hB); have Q4 := hidIt (Q2.out.below hB); have K4 := hidIt (hK.mono (w0 := W) E2.out.size); have Z4 : Hid (W.heap.size + 2 ≤ w4.heap.size ∧ W2.heap.size ≤ g1 ∧ W2.heap.size ≤ g2 ∧ g1 < w4.heap.size ∧ g2 < w4.heap.size) := ⟨by have := Z2.out; have := hB.size; omega, hK.n1, hK.n2, hK.l1, hK.row.2.2⟩; clear hB hK E2 P2 Q2)
    | (have _q := K4; have _p := T2; clear T2 _p; refine wpList_alloc_rec rfl 107 rfl (blkC blk0 none 0 none 0) w4.heap.size rfl zero_blk ?_; intro W5 R5 B5 z5; have E5 := hidIt (below_sh (Nat.le_refl _) E4.out B5); have Q5 := hidIt (Q4.out.below B5); clear E4 Q4)
    | (refine wpList_store_rec rfl 107 (.tmp 6) (.tmp 13) rfl w4.heap.size 0 _ (blkC s (some ⟨g1, 0, none⟩) s.k (some ⟨g2, 0, none⟩) s.n) rfl rfl R5 rfl (by kernel_rfl) (blkC_one _ _ _ _ _) ?_; intro W6 R6 B6; have E6 := hidIt (E5.out.trans (B6.below (by have := Z4.out; omega) E5.out.size)); have Q6 := hidIt (Q5.out.but B6 (by have := Z4.out; omega)); have R66 := hidIt R6; have X6 := hidIt (B5.trans (B6.below (Nat.le_refl _) (by omega))); clear R5 R6 B5 B6 z5 E5 Q5)
    | (refine wpList_load_rec rfl 107 (.tmp 6) rfl w4.heap.size 0 (blkC s (some ⟨g1, 0, none⟩) s.k (some ⟨g2, 0, none⟩) s.n) rfl _ Tryz.underlying107 rfl (by kernel_rfl) R66.out ?_)
    | (refine wpList_store_rec rfl 107 (.tmp 4) (.tmp 16) rfl (W.heap.size + 1) 0 _ (blkC s (some ⟨g1, 0, none⟩) s.k (some ⟨g2, 0, none⟩) s.n) rfl rfl Q6.out rfl (by kernel_rfl) (blkC_one _ _ _ _ _) ?_; intro W7 R7 B7))
  have hl := R7.run_load 107 _ Tryz.underlying107 rfl (by kernel_rfl)
  have z4 := Z4.out
  have z2 := Z2.out
  refine bodyPost_ret (v := .tuple #[.agg (blkC s (some ⟨g1, 0, none⟩) s.k (some ⟨g2, 0, none⟩) s.n).toArray, .int .i64 0]) (by simp [results, Tryz.results139, asAddr, hl]) rfl ⟨g1, g2, rfl, (K4.out.belowI X6.out).but B7 (by omega) (by omega), E6.out.trans (B7.below (by omega) E6.out.size)⟩
set_option maxRecDepth 100000 in
set_option maxHeartbeats 2000000 in
theorem gread_no (W : World) (g d b mm n : Nat) (p q : Int) (hg : g < W.heap.size) (hm : mm < W.heap.size)
    (hL : ∀ u, Below W.heap.size W u → Calls Tryz.prog 92 #[.pointer (some ⟨g, 0, none⟩), .agg (twoC p q).toArray] u (FdNo u g d n b mm p q (.tuple #[blkV blk0 none 0 none 0, .slice none 0 0, .int .i64 13]))) : Calls Tryz.prog 139 #[.pointer (some ⟨g, 0, none⟩), .agg (twoC p q).toArray] W (FdNo W g d n b mm p q (.tuple #[blkV blk0 none 0 none 0, .int .i64 13])) := by
  have HL := hidIt (And.intro hL (And.intro hg hm))
  clear hL hg hm
  have T1 : Hid True := trivial
  have T2 : Hid True := trivial
  go_enter Tryz.func139, Tryz.ntmps139
  go_wp2_with (first
    | (refine wpList_box_rec rfl 57 (.tmp 1) rfl (twoC p q) rfl W.heap.size rfl ?_; intro W1 R1 B1 z1)
    | (have _q := T1; clear T1; refine wpList_alloc_rec rfl 107 rfl (blkC blk0 none 0 none 0) (W.heap.size + 1) z1 zero_blk ?_; intro W2 R2 B2 z2
       have E2 := hidIt (B1.trans (B2.mono (by omega))); have P2 := hidIt (R1.below (by rw [z1]; exact B2)); have Q2 := hidIt R2; have Z2 := hidIt z2; clear R1 B1 z1 R2 B2 z2)
    | (refine wpList_load_rec rfl 57 (.tmp 3) rfl W.heap.size 0 (twoC p q) rfl _ Tryz.underlying57 rfl (by kernel_rfl) P2.out ?_)
    | (go_at_call 92; refine (HL.out.1 _ E2.out).mono ?_; rintro e w4 ⟨rfl, x, cap, h1, h2, h3, h4, h5⟩; unfold blkV; have Q4 := hidIt (Q2.out.off h5 (by have := HL.out.2; simp; omega)); have F4 := hidIt (And.intro h1 (And.intro h2 (And.intro h3 (And.intro h4 ((Off.of E2.out).trans h5))))); have Z4 : Hid (W.heap.size + 2 ≤ w4.heap.size) := hidIt (by have := Z2.out; have := h5.size; omega); clear h1 h2 h3 h4 h5 P2 Q2)
    | (have _q := F4; have _p := T2; clear T2 _p; refine wpList_alloc_rec rfl 107 rfl (blkC blk0 none 0 none 0) w4.heap.size rfl zero_blk ?_; intro W5 R5 B5 z5; have Q5 := hidIt (Q4.out.below B5); have X5 := hidIt B5; clear Q4 B5)
    | (refine wpList_store_rec rfl 107 (.tmp 6) (.tmp 13) rfl w4.heap.size 0 _ (blkC blk0 none 0 none 0) rfl rfl R5 rfl (by kernel_rfl) (blkC_one _ _ _ _ _) ?_; intro W6 R6 B6; have Q6 := hidIt (Q5.out.but B6 (by have := Z4.out; omega)); have R66 := hidIt R6; have X6 := hidIt (X5.out.trans (B6.below (Nat.le_refl _) (by omega))); clear R5 R6 B6 z5 Q5 X5)
    | (refine wpList_load_rec rfl 107 (.tmp 6) rfl w4.heap.size 0 (blkC blk0 none 0 none 0) rfl _ Tryz.underlying107 rfl (by kernel_rfl) R66.out ?_)
    | (refine wpList_store_rec rfl 107 (.tmp 4) (.tmp 16) rfl (W.heap.size + 1) 0 _ (blkC blk0 none 0 none 0) rfl rfl Q6.out rfl (by kernel_rfl) (blkC_one _ _ _ _ _) ?_; intro W7 R7 B7))
  have hl := R7.run_load 107 _ Tryz.underlying107 rfl (by kernel_rfl)
  have z2 := Z2.out
  have ng := HL.out.2
  obtain ⟨h1, h2, h3, h4, h5⟩ := F4.out
  refine bodyPost_ret (v := .tuple #[.agg (blkC blk0 none 0 none 0).toArray, .int .i64 13]) (by simp [results, Tryz.results139, asAddr, hl]) rfl ⟨rfl, x, cap, Rec19.but (Rec19.below h1 X6.out) B7 (by omega), by omega, ((h3.below X6.out).but B7 (by omega)).base (by omega), OwnsR.off (OwnsR.below h4 X6.out) (Off.but (bs := [W.heap.size + 1]) B7 (by simp)) (by simp; omega), (h5.trans (Off.of X6.out)).far (Off.but (bs := [W.heap.size + 1]) B7 (by simp)) (by simp)⟩
end Go.Proofs.YtblphlcnbnklmaaGreatDoor
namespace Go.Proofs.YtblphlcnbnklmaaGreatDoor
open Go.RowKit Go.Maps
/-- A text of one byte. -/
theorem conv_one (W : World) (c : UInt8) : ∃ cap W', (convert 9 23 (.string ⟨#[c]⟩)).run Tryz.prog W = .ok (.slice (some ⟨W.heap.size, 0, none⟩) 1 cap) W' ∧ 1 ≤ cap ∧ Lies W' W.heap.size 0 1 (fun _ => (c.toNat : Int)) ∧ Below W.heap.size W W' := by
  have hge := grownCap_ge W 1 0 5
  refine ⟨_, _, run_bytes_of_string (P := Tryz.prog) W 9 23 5 ⟨#[c]⟩ Tryz.underlying9 Tryz.underlying23 Tryz.underlying5, hge, ⟨fun j hj => ?_, fun _ _ => (show 0 ≤ (c.toNat : Int) ∧ (c.toNat : Int) < 256 from ⟨by omega, by have := c.toNat_lt; omega⟩), by simp⟩, (Below.refl _ _).drew.alloc (Nat.le_refl _) _⟩
  obtain rfl : j = 0 := by omega
  show (W.drew.alloc _).cell? ⟨W.drew.heap.size, 0 + 0, none⟩ = _
  rw [cell_of_row _ _ _ _ _ _ (heap_alloc_new _ _)]
  exact bytesRow_at ⟨#[c]⟩ _ 0 (by simp)
theorem eql_refs (p q : Int) (w : World) : (binOp .eql 57 (.agg (twoC p q).toArray) (.agg (twoC p q).toArray)).run Tryz.prog w = .ok (.bool true) w := eql_self p q w
/-- Six blocks are apart. -/
theorem apart6 {g d s m b mm m' b' N : Nat} (h : [g, d, s, m, b, mm].Nodup) (q1 : d < N) (q2 : s < N) (q3 : m < N) (q4 : g < N) (q5 : mm < N) (hb : N ≤ b') (hm : m' = m ∨ N ≤ m') (hbm : b' ≠ m') : [g, d, s, m', b', mm].Nodup ∧ mm ∉ [g, d, s, m] := by
  simp only [List.nodup_cons, List.mem_cons, List.not_mem_nil, or_false, not_or, not_false_eq_true, List.nodup_nil, and_true] at h ⊢
  obtain ⟨⟨n1, n2, n3, n4, n5⟩, ⟨n6, n7, n8, n9⟩, ⟨n10, n11, n12⟩, ⟨n13, n14⟩, n15⟩ := h
  rcases hm with rfl | hm
  · exact ⟨⟨⟨n1, n2, n3, by omega, n5⟩, ⟨n6, n7, by omega, n9⟩, ⟨n10, by omega, n12⟩, ⟨by omega, n14⟩, by omega⟩, Ne.symm n5, Ne.symm n9, Ne.symm n12, Ne.symm n14⟩
  · exact ⟨⟨⟨n1, n2, by omega, by omega, n5⟩, ⟨n6, by omega, by omega, n9⟩, ⟨by omega, by omega, n12⟩, ⟨by omega, by omega⟩, by omega⟩, Ne.symm n5, Ne.symm n9, Ne.symm n12, Ne.symm n14⟩
/-- The state behind a Write. -/
theorem GNew.wrote {w0 W W' : World} {g d s m b mm n i : Nat} {D D' : Dsk} {h : Nat → Nat} (hN : GNew w0 W g d s m b mm D n h) {b' m' : Nat} (hl : low (fr h) = some i) (hG : GAt W' g d n b' (.slice none 0 0) mm) (hA : SAt W' b' n (acqH h (some i))) (hS : St w0 W' d s m' D') (hb : W.heap.size ≤ b') (hm : m' = m ∨ W.heap.size ≤ m') (hbm : b' ≠ m') (hO : Off [g, d, s, m] W W') :
    GNew w0 W' g d s m' b' mm D' n (acqH h (some i)) := by
  have ap := apart6 hN.ne hN.st.at'.dl hN.st.at'.sl hN.st.at'.ml hN.ga.2.2 hN.wm.lt hb hm hbm
  have ok := acq_sok hN.ok
  rw [hl] at ok
  exact ⟨hS, hG, hA, ok, OwnsR.off hN.wm hO ap.2, ⟨hN.w0l.1, Nat.le_trans hN.st.bel.size hb, hN.w0l.2.2⟩, ap.1⟩
/-- What writes answers. -/
def WsPost (w0 W : World) (g d s m mm n i : Nat) (D : Dsk) (h : Nat → Nat) (f : Nat → Int) (e : Ending) (w' : World) : Prop := e = .returned (.bool true) ∧ ∃ b' m', GNew w0 w' g d s m' b' mm (wrD D i f) n (acqH h (some i)) ∧ Off [g, d, s, m] W w'
theorem GNew.below {w0 W W' : World} {g d s m b mm n : Nat} {D : Dsk} {h : Nat → Nat} (hN : GNew w0 W g d s m b mm D n h) (hB : Below W.heap.size W W') : GNew w0 W' g d s m b mm D n h :=
  ⟨hN.st.below hB, hN.ga.below hB, hN.sa.below hB, hN.ok, OwnsR.below hN.wm hB, hN.w0l, hN.ne⟩
theorem GNew.far {w0 W : World} {g d s m b mm n : Nat} {D : Dsk} {h : Nat → Nat} (hN : GNew w0 W g d s m b mm D n h) {x : Nat} (hx : W.heap.size ≤ x) : x ∉ [g, d, s, m, b, mm] := by
  have l1 := hN.st.at'.dl
  have l2 := hN.st.at'.sl
  have l3 := hN.st.at'.ml
  have l4 : g < W.heap.size := hN.ga.2.2
  have l5 := hN.wm.lt
  have l6 := hN.sa.l
  simp only [List.mem_cons, List.not_mem_nil, or_false, not_or]
  exact ⟨by omega, by omega, by omega, by omega, by omega, by omega⟩
theorem GNew.butI {w0 W W' : World} {g d s m b mm n c : Nat} {D : Dsk} {h : Nat → Nat} (hN : GNew w0 W g d s m b mm D n h) (hB : But c W W') (hc : c ∉ [g, d, s, m, b, mm]) (h0 : w0.heap.size ≤ c) : GNew w0 W' g d s m b mm D n h := by
  simp only [List.mem_cons, List.not_mem_nil, or_false, not_or] at hc
  exact ⟨st_butI hN.st hB ⟨by omega, by omega, by omega, h0⟩, Rec19.but hN.ga hB (by omega), hN.sa.but hB (by omega), hN.ok, OwnsR.off hN.wm (Off.but (bs := [c]) hB (by simp)) (by simp; omega), hN.w0l, hN.ne⟩
/-- What Wanted and Clone answer. -/
def ClP (W : World) (k : Nat) (r : Nat → Int) (e : Ending) (w' : World) : Prop := ∃ y cap, e = .returned (.slice (some ⟨y, 0, none⟩) k cap) ∧ OwnI w' W.heap.size 57 2 (.slice (some ⟨y, 0, none⟩) k cap) k r ∧ Below W.heap.size W w'
theorem eqref_nil (a : Addr) (n c : Nat) (w : World) : (binOp .eql 66 (.slice (some a) n c) (.slice none 0 0)).run Tryz.prog w = .ok (.bool false) w := by
  have h : (Op.equal 66 (.slice (some a) n c) (.slice none 0 0)).run Tryz.prog w = .ok false w := run_equal_slice_nil w 66 57 (some a) n c Tryz.underlying66
  simp only [binOp]
  simp [h]
set_option maxRecDepth 100000 in
theorem cloneR_ok (W : World) (x k cap : Nat) (r : Nat → Int) (hk : 0 < k) (hk2 : k ≤ 1000) (hc : ∀ j, j < k * 2 → W.cell? ⟨x, j, none⟩ = some (.int .i64 (r j))) (hx : x < W.heap.size) : Calls Tryz.prog 184 #[.slice (some ⟨x, 0, none⟩) k cap] W (ClP W k r) := by
  have A1 : Below W.heap.size W (W.alloc (.cells #[] 57)) := (Below.refl _ _).alloc (Nat.le_refl _) _
  obtain ⟨v', W', hr, hO, hB⟩ := OwnI.app (W := W.alloc (.cells #[] 57)) (base := W.heap.size) (ty := 66) Tryz.underlying66 ref_info rfl (by omega) (by omega) (OwnI.lit W W.heap.size 57 2 0 (fun _ => 0) (Nat.le_refl _) (by omega)) (C := cap) (n := 0) (m := k) (G := r) x 0 (fun j hj => by rw [Nat.zero_add]; exact (A1.cell (p := ⟨x, j, none⟩) hx).trans (hc j hj)) (by omega) A1.size
  have hO' := hO.congr (G := r) (fun j hj => by unfold cat; rw [if_neg (by omega)]; rfl)
  rw [Nat.zero_add] at hO'
  obtain ⟨y, cp, rfl, _, _, _, _⟩ := hO'.form hk
  have PP : Hid (ClP W k r (.returned (.slice (some ⟨y, 0, none⟩) k cp)) W') := ⟨y, cp, rfl, hO', A1.trans hB⟩
  have en := eqref_nil ⟨x, 0, none⟩ k cap W
  clear hk hk2 hc hx hO hO' hB A1
  go_enter Tryz.func184, Tryz.ntmps184
  go_wp2_with (at_builtin; refine wpList_append_go rfl (.tmp 5) (.tmp 6) 66 66 rfl _ _ rfl rfl hr ?_)
  go_ret
  exact PP.out
set_option maxRecDepth 100000 in
theorem wanted_ok (W : World) (g d n b mm x k cap : Nat) (r : Nat → Int) (hG : GAt W g d n b (.slice (some ⟨x, 0, none⟩) k cap) mm) (hk : 0 < k) (hk2 : k ≤ 1000) (hc : ∀ j, j < k * 2 → W.cell? ⟨x, j, none⟩ = some (.int .i64 (r j))) (hx : x < W.heap.size) : Calls Tryz.prog 77 #[.pointer (some ⟨g, 0, none⟩)] W (ClP W k r) := by
  have LS : Hid (Calls Tryz.prog 132 #[.pointer (some ⟨g, 4, none⟩)] W (ClP W k r)) := by
    have CL := hidIt (cloneR_ok W x k cap r hk hk2 hc hx)
    have c4 := hG.c4
    clear hG hk hk2 hc hx
    refine hidIt ?_
    go_enter Tryz.func132, Tryz.ntmps132
    go_wp2_with (first
      | (go_at_call 184; refine CL.out.mono ?_; rintro e w1 ⟨y, cp, rfl, hO, hB⟩; have PP : Hid (ClP W k r (.returned (.slice (some ⟨y, 0, none⟩) k cp)) w1) := ⟨y, cp, rfl, hO, hB⟩; clear hO hB))
    go_ret
    exact PP.out
  have MD := hidIt (gmade_ok W g d n b mm _ hG)
  clear hG hk hk2 hc hx
  go_enter Tryz.func77, Tryz.ntmps77
  go_wp2_with (first
    | (go_at_call 88; refine MD.out.mono ?_; rintro e w1 ⟨rfl, hw⟩; rw [hw]; clear hw w1)
    | (go_at_call 132; refine LS.out.mono ?_; rintro e w1 ⟨y, cp, rfl, hO, hB⟩; have PP : Hid (ClP W k r (.returned (.slice (some ⟨y, 0, none⟩) k cp)) w1) := ⟨y, cp, rfl, hO, hB⟩; clear hO hB))
  go_ret
  exact PP.out
/-- What made answers. -/
def MdP (W : World) (n : Nat) (e : Ending) (w' : World) : Prop := ∃ g d s m b mm, e = .returned (.tuple #[.pointer (some ⟨d, 0, none⟩), .pointer (some ⟨g, 0, none⟩), .bool true]) ∧ GNew W w' g d s m b mm (dsk0 (104 + 4 * n)) n (iniH n)
theorem dsk0_few (n : Nat) : (dsk0 n).few 0 := ⟨rfl, rfl, by show (0 : Int) ≤ 0; omega, by show (0 : Int) ≤ 0; omega⟩
set_option maxRecDepth 100000 in
theorem lmade_ok (W : World) (n : Nat) (h1 : 1 ≤ n) (h2 : n ≤ 512) : Calls Tryz.prog 33 #[.int .i64 (n : Int)] W (MdP W n) := by
  have i1 : IntKind.i64.wrap (4 * (n : Int)) = 4 * (n : Int) := by rw [IntKind.wrap_i64]; omega
  have i2 : wrap64 (4 * (n : Int)) = 4 * (n : Int) := by unfold wrap64; omega
  have i3 : IntKind.i64.wrap (104 + 4 * (n : Int)) = 104 + 4 * (n : Int) := by rw [IntKind.wrap_i64]; omega
  have i4 : wrap64 (104 + 4 * (n : Int)) = 104 + 4 * (n : Int) := by unfold wrap64; omega
  have DN : Hid (Calls Tryz.prog 57 #[.int .i64 (104 + 4 * (n : Int))] W (NewPost W (104 + 4 * n))) := by
    have := new_ok (104 + 4 * n) W (by omega) (by omega)
    rwa [show (((104 + 4 * n : Nat)) : Int) = 104 + 4 * (n : Int) by omega] at this
  have HN := hidIt (And.intro h1 h2)
  clear h1 h2
  go_enter Tryz.func33, Tryz.ntmps33
  go_wp2_with (first
    | (go_at_call 57; refine DN.out.mono ?_; rintro e w1 ⟨d, s, m, rfl, hd, hs, hm, hA, hB⟩; have S1 : Hid (St W w1 d s m (dsk0 (104 + 4 * n))) := ⟨hA, hd, hs, hm, hB⟩; clear hd hs hm hA hB)
    | (go_at_call 23; refine (gnew_ok W w1 d s m _ n S1.out ((dsk0_few _).free (by omega)) HN.out.1 HN.out.2 (Nat.le_refl _)).mono ?_; rintro e w2 ⟨g, b, mm, rfl, hN, hB⟩; have N2 := hidIt hN; clear hN hB))
  go_ret3
  exact ⟨g, d, s, m, b, mm, rfl, N2.out⟩
end Go.Proofs.YtblphlcnbnklmaaGreatDoor
namespace Go.Proofs.YtblphlcnbnklmaaGreatDoor
open Go.RowKit Go.Maps
theorem wpList_bs_w {ops : Array Oper} {rest : List Oper} {o : Oper} {a : Act} {w : World} {Q : Exit → Act → World → Prop} (hw : Region.wanted o (yielded ops a.tmps) = true) (t e : TypeId) (len : Nat) (parts : Array (Nat × Operand)) (ho : o.op = .buildSlice t len parts) (sz by' : Nat) (z : Value) (cells : Array Value) (vs : List (Nat × Value))
    (hu : Tryz.prog.underlying t = some (.slice e)) (hinfo : (Tryz.prog.info? e).map (fun i => (i.zero, i.size, i.bytes)) = some (some z, sz, by')) (hsmall : ¬ len * sz > 2 ^ 24) (hpos : ¬ len * sz = 0)
    (hv : (parts.map fun (i, x) => (i, a.eval x)).toList = vs) (hf : Instr.fill (fun i => some (i * sz, sz)) ((Array.range (len * sz)).map (z.cells[· % z.cells.size]!)) vs = some cells)
    (hK : ∀ W, w.alloc (.cells cells e) = W → wpList Tryz.prog ops Q rest (a.put o.dst (.slice (some ⟨w.heap.size, 0, none⟩) len len)) W) : wpList Tryz.prog ops Q (o :: rest) a w := by
  refine wpList_step fun K hK' => ?_
  rw [if_pos hw]
  unfold Oper.wp
  rw [bs_runI (w := w) (a := a) t e len parts ho sz by' z cells vs hu hinfo hsmall hpos hv hf]
  exact hK' _ _ (hK _ rfl)
/-- A ref that a literal names. -/
theorem ref_lit (w : World) (p q : Int) : HArg (w.alloc (.cells (twoC p q).toArray 57)) (some ⟨w.heap.size, 0, none⟩) 1 (fun j => if j = 0 then p else q) := by
  refine .inr ⟨w.heap.size, 0, rfl, fun j hj => ?_, by simp⟩
  rw [cell_of_row _ _ _ _ _ _ (heap_alloc_new _ _)]
  match j, hj with
  | 0, _ => rfl
  | 1, _ => rfl
/-- The chapter's two blocks. -/
def bk1 : Blk := gB 1 1 7 0 (fun _ => 0) 1 (fun _ => ((97 : UInt8).toNat : Int))
def bk2 : Blk := gB 2 2 7 1 (fun j => if j = 0 then 1 else 7) 1 (fun _ => ((98 : UInt8).toNat : Int))
theorem bk1_may : bk1.May := ⟨⟨by show (1 : Int) ≤ 1; omega, by show (1 : Int) ≤ 15; omega⟩, ⟨⟨by show (1 : Int) ≤ 1; omega, by show (1 : Int) ≤ 512; omega⟩, ⟨by show (0 : Int) ≤ 7; omega, by show (7 : Int) ≤ 1073741824; omega⟩⟩, by show 0 ≤ 16; omega, by show 1 ≤ 860; omega, fun i hi => absurd hi (by show ¬ i < 0; omega)⟩
theorem bk2_may : bk2.May := ⟨⟨by show (1 : Int) ≤ 2; omega, by show (2 : Int) ≤ 15; omega⟩, ⟨⟨by show (1 : Int) ≤ 2; omega, by show (2 : Int) ≤ 512; omega⟩, ⟨by show (0 : Int) ≤ 7; omega, by show (7 : Int) ≤ 1073741824; omega⟩⟩, by show 1 ≤ 16; omega, by show 1 ≤ 860; omega, fun i hi => by
  have hi' : i < 1 := hi
  obtain rfl : i = 0 := by omega
  exact ⟨⟨by show (1 : Int) ≤ 1; omega, by show (1 : Int) ≤ 512; omega⟩, ⟨by show (0 : Int) ≤ 7; omega, by show (7 : Int) ≤ 1073741824; omega⟩⟩⟩
/-- The disk and the set behind the first call, and behind the second one. -/
noncomputable def tD1 : Dsk := wrD (dsk0 (104 + 4 * 4)) 0 bk1.img
noncomputable def tD2 : Dsk := wrD tD1 1 bk2.img
def tH1 : Nat → Nat := acqH (iniH 4) (some 0)
def tH2 : Nat → Nat := acqH tH1 (some 1)
theorem low0 : low (fr (iniH 4)) = some 0 := by kernel_rfl
theorem low1 : low (fr tH1) = some 1 := by kernel_rfl
theorem wrD_few {D : Dsk} {k : Int} (h : D.few k) (i : Nat) (f : Nat → Int) : (wrD D i f).few (k + 1) := h.wrote _ _ _
theorem wrD_N (D : Dsk) (i : Nat) (f : Nat → Int) : (wrD D i f).N = D.N := Dsk.wrote_N D (104 + i * 4) f 4
theorem tD1_few : tD1.few 1 := wrD_few (dsk0_few _) 0 _
theorem tD2_few : tD2.few 2 := wrD_few tD1_few 1 _
theorem tD1_N : tD1.N = 120 := wrD_N _ 0 _
theorem tD2_N : tD2.N = 120 := (wrD_N tD1 1 _).trans tD1_N
/-- What two answers. -/
def TwP (W : World) (e : Ending) (w' : World) : Prop := ∃ g d s m b mm, e = .returned (.tuple #[.pointer (some ⟨d, 0, none⟩), .pointer (some ⟨g, 0, none⟩), .bool true]) ∧ GNew W w' g d s m b mm tD2 4 tH2
/-- Bytes that are a block's are read as it. -/
theorem whole_of {s : Blk} (m : s.May) {F : Nat → Int} (h : ∀ j, j < 1024 → F j = s.img j) : Whole F ∧ s.Eq (blkOf (behO F)) := by
  have W := m.whole
  have R := m.read
  have e : ∀ i, i < 37 → rdN (behO F) i = rdN (behO s.img) i := fun i hi => rdN_behO h i hi
  have e3 := e 3 (by omega)
  have e4 := e 4 (by omega)
  have sz := W.2.1.1
  have k0 : (rdN (behO s.img) 3).toNat ≤ 16 := by have := sz.1; omega
  have n0 : (rdN (behO s.img) 4).toNat ≤ 860 := by have := sz.2; omega
  have E : (blkOf (behO s.img)).Eq (blkOf (behO F)) := by
    refine ⟨?_, ?_, fun i hi => (e i (by omega)).symm, fun j hj => (e (5 + j) ?_).symm, fun j hj => (h (16 + (148 + j)) ?_).symm⟩
    · show (rdN (behO s.img) 3).toNat = (rdN (behO F) 3).toNat
      rw [e3]
    · show (rdN (behO s.img) 4).toNat = (rdN (behO F) 4).toNat
      rw [e4]
    · have hj' : j < 2 * (rdN (behO s.img) 3).toNat := hj
      omega
    · have hj' : j < (rdN (behO s.img) 4).toNat := hj
      omega
  refine ⟨⟨by rw [opens_congr h]; exact W.1, ⟨⟨by rw [e3]; exact sz.1, by rw [e4]; exact sz.2⟩, fun i hi hk => ?_, fun j hj hk => ?_⟩, E.may W.2.2⟩, ?_⟩
  · rw [e3] at hk
    rw [e _ (by omega), e _ (by omega)]
    exact W.2.1.2.1 i hi hk
  · rw [e4] at hk
    rw [show behO F (148 + j) = behO s.img (148 + j) from h _ (by omega)]
    exact W.2.1.2.2 j hj hk
  · obtain ⟨a1, a2, a3, a4, a5⟩ := R
    obtain ⟨b1, b2, b3, b4, b5⟩ := E
    exact ⟨a1.trans b1, a2.trans b2, fun i hi => (a3 i hi).trans (b3 i hi), fun j hj => (a4 j hj).trans (b4 j (by rw [← a1]; exact hj)), fun j hj => (a5 j hj).trans (b5 j (by rw [← a2]; exact hj))⟩
theorem wr_here (D : Dsk) (i : Nat) (f : Nat → Int) (j : Nat) (hj : j < 1024) : blF (wrD D i f) i j = f j := by
  unfold blF wrD Dsk.more
  have := Dsk.wrote_sec D (104 + i * 4) f (104 + i * 4 + j / 256) (j % 256) (by omega) 4
  rw [if_pos (by omega), show 104 + i * 4 + j / 256 - (104 + i * 4) = j / 256 by omega] at this
  unfold at256 at this
  rw [show (104 + i * 4 + j / 256) * 256 + j % 256 = (104 + i * 4) * 256 + j by omega, show j / 256 * 256 + j % 256 = j by omega] at this
  exact this
theorem wr_there (D : Dsk) (i i' : Nat) (f : Nat → Int) (h : i' ≠ i) (j : Nat) (hj : j < 1024) : blF (wrD D i f) i' j = blF D i' j := by
  unfold blF wrD Dsk.more
  have := Dsk.wrote_sec D (104 + i * 4) f (104 + i' * 4 + j / 256) (j % 256) (by omega) 4
  rw [if_neg (by omega)] at this
  unfold at256 at this
  rw [show (104 + i' * 4 + j / 256) * 256 + j % 256 = (104 + i' * 4) * 256 + j by omega] at this
  exact this
theorem tD2_0 : ∀ j, j < 1024 → blF tD2 0 j = bk1.img j := fun j hj => (wr_there tD1 1 0 _ (by omega) j hj).trans (wr_here _ 0 _ j hj)
theorem tD2_1 : ∀ j, j < 1024 → blF tD2 1 j = bk2.img j := fun j hj => wr_here tD1 1 _ j hj
end Go.Proofs.YtblphlcnbnklmaaGreatDoor
