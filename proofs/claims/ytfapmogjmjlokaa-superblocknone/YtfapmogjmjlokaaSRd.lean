/-
  Walks, not a claim by itself: superblock's Bytes and Read. By the verifier.
-/
import Derived.Test.YtfapmogjmjlokaaSSof
import Derived.Test.YtfapmogjmjlokaaCOpen
namespace Go.Proofs.Ytfapmogjmjlokaa
open Go.RowKit
/-- A load of a whole record behind a guard. -/
theorem wpList_load_w {ops : Array Oper} {rest : List Oper} {op : Oper} {a : Act} {w : World} {Q : Exit → Act → World → Prop} (hw : Region.wanted op (yielded ops a.tmps) = true) (ty : TypeId) (x : Operand) (ho : op.op = .load ty x)
    (n o : Nat) (cs : List Value) (hx : a.eval x = .pointer (some ⟨n, o, none⟩)) (d : TypeDesc) (hu : Try.prog.underlying ty = some d) (hd : d.isRow = true) (hi : (Try.prog.info? ty).map (·.size) = some cs.length)
    (h : Rec19 w n o cs) (hK : wpList Try.prog ops Q rest (a.put op.dst (.agg cs.toArray)) w) : wpList Try.prog ops Q (op :: rest) a w := by
  refine wpList_step fun K hK' => ?_
  rw [if_pos hw]
  exact wp_load_mid (P := Try.prog) ty x ho n o hx cs d h.1 hu hd hi (hK' _ _ hK)
/-- What Bytes answers of a superblock that may be. -/
def ByPost (w : World) (s : Sup) (e : Ending) (w' : World) : Prop := ∃ g, e = .returned (.tuple #[.slice (some ⟨g, 0, none⟩) 512 512, .int .i64 0]) ∧ w.heap.size ≤ g ∧ IRow w' g .u8 512 s.img ∧ Below w.heap.size w w'
set_option maxRecDepth 100000 in
set_option maxHeartbeats 400000 in
theorem bytes_no (s : Sup) (a : Option Addr) (C : Nat) (w : World) (hA : HArg w a s.k s.h) (m : ¬ s.May) :
    Calls Try.prog 10 #[supV s a C] w fun e w' => e = .returned (.tuple #[.slice none 0 0, .int .i64 2]) ∧ Below w.heap.size w w' := by
  have CK : Hid (∀ w', Below w.heap.size w w' → Calls Try.prog 16 #[supV s a C] w' fun e w'' => e = .returned (.int .i64 2) ∧ Below w'.heap.size w' w'') := fun w' hB => by
    have := check_any s a C w' (hA.below hB)
    rwa [show chkV s = 2 from if_neg m] at this
  clear hA m
  unfold supV
  unfold supV at CK
  go_enter Try.func10, Try.ntmps10
  go_wp2_with (first
    | (refine wpList_box_rec rfl 26 (.tmp 0) rfl (supC s a C) rfl w.heap.size rfl ?_; intro W0 R0 B0 z0)
    | (refine wpList_load_rec rfl 26 (.tmp 1) rfl w.heap.size 0 (supC s a C) rfl _ Try.underlying26 rfl (by kernel_rfl) R0 ?_)
    | (go_at_call 16; refine (CK.out _ B0).mono ?_; rintro e w1 ⟨rfl, B1⟩))
  go_ret2
  exact ⟨rfl, B0.trans (B1.mono B0.size)⟩
set_option maxRecDepth 100000 in
set_option maxHeartbeats 400000 in
theorem bytes_ok (s : Sup) (a : Option Addr) (C : Nat) (w : World) (hA : HArg w a s.k s.h) (m : s.May) :
    Calls Try.prog 10 #[supV s a C] w (ByPost w s) := by
  have CK : Hid (∀ w', Below w.heap.size w w' → Calls Try.prog 16 #[supV s a C] w' fun e w'' => e = .returned (.int .i64 0) ∧ Below w'.heap.size w' w'') := fun w' hB => by
    have := check_any s a C w' (hA.below hB)
    rwa [show chkV s = 0 from if_pos m] at this
  have LD : Hid (∀ w', Below w.heap.size w w' → Calls Try.prog 32 #[supV s a C] w' fun e w'' => e = .returned (.agg (cl .u8 496 s.beh).toArray) ∧ Below w'.heap.size w' w'') := fun w' hB => laid_any s a C w' (hA.below hB) m.2.1
  clear hA m
  unfold supV
  unfold supV at CK LD
  have K1 : Hid True := trivial
  have K2 : Hid True := trivial
  go_enter Try.func10, Try.ntmps10
  go_wp2_with (first
    | (refine wpList_box_rec rfl 26 (.tmp 0) rfl (supC s a C) rfl w.heap.size rfl ?_; intro W0 R0 B0 z0)
    | (have _q := K1; clear K1; refine wpList_load_rec rfl 26 (.tmp 1) rfl w.heap.size 0 (supC s a C) rfl _ Try.underlying26 rfl (by kernel_rfl) R0 ?_)
    | (go_at_call 16; refine (CK.out _ B0).mono ?_; rintro e w1 ⟨rfl, B1⟩; have R1 := R0.below B1; have E1 : Below w.heap.size w w1 := B0.trans (B1.mono B0.size); clear R0 B0 z0 B1)
    | (have _q := K2; clear K2; refine wpList_load_rec rfl 26 (.tmp 1) rfl w.heap.size 0 (supC s a C) rfl _ Try.underlying26 rfl (by kernel_rfl) R1 ?_)
    | (go_at_call 32; refine (LD.out _ E1).mono ?_; rintro e w2 ⟨rfl, B2⟩; have E2 : Below w.heap.size w w2 := E1.trans (B2.mono E1.size); clear R1 E1 B2)
    | (refine wpList_alloc_row rfl 67 rfl .u8 496 w2.heap.size rfl zero8_496 ?_; intro W3 R3 B3 z3)
    | (refine wpList_store_row rfl 67 (.tmp 5) (.tmp 12) rfl w2.heap.size .u8 496 s.beh (fun _ => 0) rfl rfl R3 (by kernel_rfl) ?_; intro W4 R4 B4 z4
       have E4 : Below w.heap.size w W4 := E2.trans ((B3.mono E2.size).trans (B4.below E2.size (by have := E2.size; omega)))
       have LL := R4.lies (fun j _ => s.beh_byte j)
       clear R3 B3 z3 B4 z4 R4 E2)
    | (go_at_call 33; refine (seal_any (some ⟨w2.heap.size, 0, none⟩) 496 496 s.beh _ (Arg.of LL) (by omega) (by omega)).mono ?_; rintro e w5 ⟨g, rfl, hg, R5, B5⟩))
  go_ret2
  exact ⟨g, rfl, Nat.le_trans E4.size hg, R5, E4.trans (B5.mono E4.size)⟩
/-- What Read answers. -/
def RdPost (w : World) (F : Nat → Int) (e : Ending) (w' : World) : Prop :=
  (¬ Whole F ∧ (∃ c : Int, e = .returned (.tuple #[supV sup0 none 0, .int .i64 c]) ∧ c = rdE F) ∧ Below w.heap.size w w') ∨
  (Whole F ∧ ∃ a C, e = .returned (.tuple #[supV (supOf (behO F)) a C, .int .i64 0]) ∧ HArg w' a (supOf (behO F)).k (supOf (behO F)).h ∧ (supOf (behO F)).k ≤ C ∧ (∀ r, a = some r → w.heap.size ≤ r.block) ∧ Below w.heap.size w w')
set_option maxRecDepth 100000 in
set_option maxHeartbeats 400000 in
theorem read_len (a : Option Addr) (n C : Nat) (w : World) (h : n ≠ 512) :
    Calls Try.prog 12 #[.slice a n C] w fun e w' => e = .returned (.tuple #[supV sup0 none 0, .int .i64 4]) ∧ Below w.heap.size w w' := by
  have e1 : ((n : Int) != 512) = true := by simp; omega
  clear h
  go_enter Try.func12, Try.ntmps12
  go_wp2_with (first
    | (refine wpList_alloc_rec rfl 26 rfl (supC sup0 none 0) w.heap.size rfl zero_super ?_; intro W0 R0 B0 z0)
    | (refine wpList_build_to rfl 26 _ rfl (supC sup0 none 0).toArray (by kernel_rfl) ?_)
    | (refine wpList_store_rec rfl 26 (.tmp 2) (.tmp 11) rfl w.heap.size 0 _ (supC sup0 none 0) rfl rfl R0 rfl (by kernel_rfl) (supC_one _ _ _) ?_; intro W9 R9 B9))
  have hl := R9.run_load 26 _ Try.underlying26 rfl (by kernel_rfl)
  refine bodyPost_ret (v := .tuple #[supV sup0 none 0, .int .i64 4]) (by simp [results, Try.results12, asAddr, supV, hl]) rfl ⟨rfl, ?_⟩
  exact B0.trans (B9.below (Nat.le_refl _) (by omega))
set_option maxRecDepth 100000 in
set_option maxHeartbeats 400000 in
theorem read_seal (b off C : Nat) (F : Nat → Int) (w : World) (hL : Lies w b off 512 F) (hC : 512 ≤ C) (ho : opens 512 F = false) :
    Calls Try.prog 12 #[.slice (some ⟨b, off, none⟩) 512 C] w fun e w' => e = .returned (.tuple #[supV sup0 none 0, .int .i64 12]) ∧ Below w.heap.size w w' := by
  have HO : Hid (∀ w', Below w.heap.size w w' → Calls Try.prog 36 #[.slice (some ⟨b, off, none⟩) 512 C] w' fun e w'' => e = .returned (.tuple #[.slice none 0 0, .int .i64 12]) ∧ Below w'.heap.size w' w'') := fun w' hB => open_nom b off 512 C F w' (hL.below hB) (by omega) hC (by omega) (by omega) ho
  clear hL ho
  go_enter Try.func12, Try.ntmps12
  go_wp2_with (first
    | (refine wpList_alloc_rec rfl 26 rfl (supC sup0 none 0) w.heap.size rfl zero_super ?_; intro W0 R0 B0 z0)
    | (go_at_call 36; refine (HO.out _ B0).mono ?_; rintro e w1 ⟨rfl, B1⟩; have R1 := R0.below B1; have E1 : Below w.heap.size w w1 := B0.trans (B1.mono B0.size); clear R0 B0 z0 B1)
    | (refine wpList_build_to rfl 26 _ rfl (supC sup0 none 0).toArray (by kernel_rfl) ?_)
    | (refine wpList_store_rec rfl 26 (.tmp 2) (.tmp 19) rfl w.heap.size 0 _ (supC sup0 none 0) rfl rfl R1 rfl (by kernel_rfl) (supC_one _ _ _) ?_; intro W9 R9 B9))
  have hl := R9.run_load 26 _ Try.underlying26 rfl (by kernel_rfl)
  refine bodyPost_ret (v := .tuple #[supV sup0 none 0, .int .i64 12]) (by simp [results, Try.results12, asAddr, supV, hl]) rfl ⟨rfl, ?_⟩
  exact E1.trans (B9.below (Nat.le_refl _) E1.size)
theorem sof_no {g : Nat} {f : Nat → Int} {w : World} (hL : Lies w g 0 496 f) (h : ¬ SupOk f) : Calls Try.prog 37 #[.slice (some ⟨g, 0, none⟩) 496 496] w fun e w' => e = .returned (.tuple #[supV sup0 none 0, .bool false]) ∧ Below w.heap.size w w' := by
  refine (superOf_any g f w hL).mono ?_
  rintro e w' (⟨_, h1, h2⟩ | ⟨h1, _⟩)
  · exact ⟨h1, h2⟩
  · exact absurd h1 h
def SofOk (w : World) (f : Nat → Int) (e : Ending) (w' : World) : Prop := ∃ a C, e = .returned (.tuple #[supV (supOf f) a C, .bool true]) ∧ HArg w' a (supOf f).k (supOf f).h ∧ (supOf f).k ≤ C ∧ (∀ r, a = some r → w.heap.size ≤ r.block) ∧ Below w.heap.size w w'
theorem sof_ok {g : Nat} {f : Nat → Int} {w : World} (hL : Lies w g 0 496 f) (h : SupOk f) : Calls Try.prog 37 #[.slice (some ⟨g, 0, none⟩) 496 496] w (SofOk w f) := by
  refine (superOf_any g f w hL).mono ?_
  rintro e w' (⟨h1, _⟩ | ⟨_, h1⟩)
  · exact absurd h h1
  · exact h1
theorem open_512 (b off C : Nat) (F : Nat → Int) (w : World) (hL : Lies w b off 512 F) (hC : 512 ≤ C) (ho : opens 512 F = true) :
    Calls Try.prog 36 #[.slice (some ⟨b, off, none⟩) 512 C] w fun e w' => ∃ g, e = .returned (.tuple #[.slice (some ⟨g, 0, none⟩) 496 496, .int .i64 0]) ∧ w.heap.size ≤ g ∧ Lies w' g 0 496 (behO F) ∧ Below w.heap.size w w' := by
  refine (open_okm b off 512 C F w hL (by omega) hC (by omega) (by omega) ho).mono ?_
  rintro e w' ⟨g, rfl, h1, h2, h3⟩
  exact ⟨g, rfl, h1, h2.lies (fun j hj => hL.2.1 _ (by omega)), h3⟩
set_option maxRecDepth 100000 in
set_option maxHeartbeats 400000 in
theorem read_form (b off C : Nat) (F : Nat → Int) (w : World) (hL : Lies w b off 512 F) (hC : 512 ≤ C) (ho : opens 512 F = true) (hs : ¬ SupOk (behO F)) :
    Calls Try.prog 12 #[.slice (some ⟨b, off, none⟩) 512 C] w fun e w' => e = .returned (.tuple #[supV sup0 none 0, .int .i64 4]) ∧ Below w.heap.size w w' := by
  have HO : Hid (∀ w', Below w.heap.size w w' → Calls Try.prog 36 #[.slice (some ⟨b, off, none⟩) 512 C] w' fun e w'' => ∃ g, e = .returned (.tuple #[.slice (some ⟨g, 0, none⟩) 496 496, .int .i64 0]) ∧ w'.heap.size ≤ g ∧ Lies w'' g 0 496 (behO F) ∧ Below w'.heap.size w' w'') := fun w' hB => open_512 b off C F w' (hL.below hB) hC ho
  have HS : Hid (¬ SupOk (behO F)) := hs
  clear hL ho hs
  have K1 : Hid True := trivial
  have K2 : Hid True := trivial
  have K3 : Hid True := trivial
  go_enter Try.func12, Try.ntmps12
  go_wp2_with (first
    | (have _q := K1; clear K1; refine wpList_alloc_rec rfl 26 rfl (supC sup0 none 0) w.heap.size rfl zero_super ?_; intro W0 R0 B0 z0)
    | (go_at_call 36; refine (HO.out _ B0).mono ?_; rintro e w1 ⟨g, rfl, hg, L1, B1⟩; have R1 := R0.below B1; have E1 : Below w.heap.size w w1 := B0.trans (B1.mono B0.size); clear R0 B0 z0 B1)
    | (go_at_call 37; refine (sof_no L1 HS.out).mono ?_; rintro e w2 ⟨rfl, B2⟩; have R2 := R1.below B2; have E2 : Below w.heap.size w w2 := E1.trans (B2.mono E1.size); clear R1 E1 B2 L1; unfold supV)
    | (have _q := K2; clear K2; refine wpList_alloc_rec rfl 26 rfl (supC sup0 none 0) w2.heap.size rfl zero_super ?_; intro W3 R3 B3 z3)
    | (have _q := K3; clear K3; refine wpList_store_rec rfl 26 (.tmp 6) (.tmp 24) rfl w2.heap.size 0 _ (supC sup0 none 0) rfl rfl R3 rfl (by kernel_rfl) (supC_one _ _ _) ?_; intro W4 R4 B4
       have R5 := (R2.below B3).but B4 (by have := R2.2.2; omega)
       have E4 : Below w.heap.size w W4 := E2.trans ((B3.mono E2.size).trans (B4.below E2.size (by have := E2.size; omega)))
       clear R2 R3 B3 z3 R4 B4 E2)
    | (refine wpList_build_to rfl 26 _ rfl (supC sup0 none 0).toArray (by kernel_rfl) ?_)
    | (refine wpList_store_rec rfl 26 (.tmp 2) (.tmp 33) rfl w.heap.size 0 _ (supC sup0 none 0) rfl rfl R5 rfl (by kernel_rfl) (supC_one _ _ _) ?_; intro W9 R9 B9))
  have hl := R9.run_load 26 _ Try.underlying26 rfl (by kernel_rfl)
  refine bodyPost_ret (v := .tuple #[supV sup0 none 0, .int .i64 4]) (by simp [results, Try.results12, asAddr, supV, hl]) rfl ⟨rfl, ?_⟩
  exact E4.trans (B9.below (Nat.le_refl _) E4.size)
set_option maxRecDepth 100000 in
set_option maxHeartbeats 400000 in
theorem read_may (b off C : Nat) (F : Nat → Int) (w : World) (hL : Lies w b off 512 F) (hC : 512 ≤ C) (ho : opens 512 F = true) (hs : SupOk (behO F)) (hm : ¬ (supOf (behO F)).May) :
    Calls Try.prog 12 #[.slice (some ⟨b, off, none⟩) 512 C] w fun e w' => e = .returned (.tuple #[supV sup0 none 0, .int .i64 4]) ∧ Below w.heap.size w w' := by
  have HO : Hid (∀ w', Below w.heap.size w w' → Calls Try.prog 36 #[.slice (some ⟨b, off, none⟩) 512 C] w' fun e w'' => ∃ g, e = .returned (.tuple #[.slice (some ⟨g, 0, none⟩) 496 496, .int .i64 0]) ∧ w'.heap.size ≤ g ∧ Lies w'' g 0 496 (behO F) ∧ Below w'.heap.size w' w'') := fun w' hB => open_512 b off C F w' (hL.below hB) hC ho
  have HS : Hid (SupOk (behO F)) := hs
  have CV : Hid (chkV (supOf (behO F)) = 2) := if_neg hm
  obtain ⟨s, es⟩ : ∃ s, supOf (behO F) = s := ⟨_, rfl⟩
  have ES : Hid (supOf (behO F) = s) := es
  rw [es] at CV
  clear hL ho hs hm es
  have K1 : Hid True := trivial
  have K2 : Hid True := trivial
  have K3 : Hid True := trivial
  go_enter Try.func12, Try.ntmps12
  go_wp2_with (first
    | (have _q := K1; clear K1; refine wpList_alloc_rec rfl 26 rfl (supC sup0 none 0) w.heap.size rfl zero_super ?_; intro W0 R0 B0 z0)
    | (go_at_call 36; refine (HO.out _ B0).mono ?_; rintro e w1 ⟨g, rfl, hg, L1, B1⟩; have R1 := R0.below B1; have E1 : Below w.heap.size w w1 := B0.trans (B1.mono B0.size); clear R0 B0 z0 B1)
    | (go_at_call 37; refine (sof_ok L1 HS.out).mono ?_; rintro e w2 ⟨a, C2, rfl, hA, _, _, B2⟩; rw [ES.out] at hA ⊢; have HA : Hid (HArg w2 a s.k s.h) := hA; have R2 := R1.below B2; have E2 : Below w.heap.size w w2 := E1.trans (B2.mono E1.size); clear R1 E1 B2 L1 hA; unfold supV)
    | (have _q := K2; clear K2; refine wpList_alloc_rec rfl 26 rfl (supC sup0 none 0) w2.heap.size rfl zero_super ?_; intro W3 R3 B3 z3)
    | (have _q := K3; clear K3; refine wpList_store_rec rfl 26 (.tmp 6) (.tmp 24) rfl w2.heap.size 0 _ (supC s a C2) rfl rfl R3 rfl (by kernel_rfl) (supC_one _ _ _) ?_; intro W4 R4 B4
       have R5 := (R2.below B3).but B4 (by have := R2.2.2; omega)
       have E3 : Below w2.heap.size w2 W4 := B3.trans (B4.below (Nat.le_refl _) (by omega))
       have E4 : Below w.heap.size w W4 := E2.trans (E3.mono E2.size)
       have H4 : Hid (HArg W4 a s.k s.h) := HA.out.below E3
       clear R2 R3 B3 z3 B4 E2 HA E3)
    | (refine wpList_load_w (by rfl) 26 (.tmp 6) rfl w2.heap.size 0 (supC s a C2) rfl _ Try.underlying26 rfl (by kernel_rfl) R4 ?_)
    | (go_at_call 16; refine (check_any s a C2 _ H4.out).mono ?_; rintro e w5 ⟨rfl, B5⟩; rw [CV.out]; have R6 := R5.below B5; have E6 : Below w.heap.size w w5 := E4.trans (B5.mono E4.size); clear R5 E4 B5 H4)
    | (refine wpList_build_to rfl 26 _ rfl (supC sup0 none 0).toArray (by kernel_rfl) ?_)
    | (refine wpList_store_rec rfl 26 (.tmp 2) (.tmp 33) rfl w.heap.size 0 _ (supC sup0 none 0) rfl rfl R6 rfl (by kernel_rfl) (supC_one _ _ _) ?_; intro W9 R9 B9))
  have hl := R9.run_load 26 _ Try.underlying26 rfl (by kernel_rfl)
  refine bodyPost_ret (v := .tuple #[supV sup0 none 0, .int .i64 4]) (by simp [results, Try.results12, asAddr, supV, hl]) rfl ⟨rfl, ?_⟩
  exact E6.trans (B9.below (Nat.le_refl _) E6.size)
/-- What Read answers of bytes that are a superblock that may be. -/
def RdOk (w : World) (F : Nat → Int) (e : Ending) (w' : World) : Prop := ∃ a C, e = .returned (.tuple #[supV (supOf (behO F)) a C, .int .i64 0]) ∧ HArg w' a (supOf (behO F)).k (supOf (behO F)).h ∧ (supOf (behO F)).k ≤ C ∧ (∀ r, a = some r → w.heap.size ≤ r.block) ∧ Below w.heap.size w w'
set_option maxRecDepth 100000 in
set_option maxHeartbeats 400000 in
theorem read_whole (b off C : Nat) (F : Nat → Int) (w : World) (hL : Lies w b off 512 F) (hC : 512 ≤ C) (ho : opens 512 F = true) (hs : SupOk (behO F)) (hm : (supOf (behO F)).May) :
    Calls Try.prog 12 #[.slice (some ⟨b, off, none⟩) 512 C] w (RdOk w F) := by
  have HO : Hid (∀ w', Below w.heap.size w w' → Calls Try.prog 36 #[.slice (some ⟨b, off, none⟩) 512 C] w' fun e w'' => ∃ g, e = .returned (.tuple #[.slice (some ⟨g, 0, none⟩) 496 496, .int .i64 0]) ∧ w'.heap.size ≤ g ∧ Lies w'' g 0 496 (behO F) ∧ Below w'.heap.size w' w'') := fun w' hB => open_512 b off C F w' (hL.below hB) hC ho
  have HS : Hid (SupOk (behO F)) := hs
  have CV : Hid (chkV (supOf (behO F)) = 0) := if_pos hm
  obtain ⟨s, es⟩ : ∃ s, supOf (behO F) = s := ⟨_, rfl⟩
  have ES : Hid (supOf (behO F) = s) := es
  rw [es] at CV
  clear hL ho hs hm es
  have K1 : Hid True := trivial
  have K2 : Hid True := trivial
  have K3 : Hid True := trivial
  have K4 : Hid True := trivial
  go_enter Try.func12, Try.ntmps12
  go_wp2_with (first
    | (have _q := K1; clear K1; refine wpList_alloc_rec rfl 26 rfl (supC sup0 none 0) w.heap.size rfl zero_super ?_; intro W0 R0 B0 z0)
    | (go_at_call 36; refine (HO.out _ B0).mono ?_; rintro e w1 ⟨g, rfl, hg, L1, B1⟩; have R1 := R0.below B1; have E1 : Below w.heap.size w w1 := B0.trans (B1.mono B0.size); clear R0 B0 z0 B1)
    | (go_at_call 37; refine (sof_ok L1 HS.out).mono ?_; rintro e w2 ⟨a, C2, rfl, hA, kc, nb, B2⟩; rw [ES.out] at hA kc ⊢; have KC : Hid (s.k ≤ C2) := kc; have NB : Hid (∀ r, a = some r → w.heap.size < r.block) := fun r hr => by { have q := nb r hr; have q1 := R1.2.2; omega }; clear kc nb; have HA : Hid (HArg w2 a s.k s.h) := hA; have R2 := R1.below B2; have E2 : Below w.heap.size w w2 := E1.trans (B2.mono E1.size); clear R1 E1 B2 L1 hA; unfold supV)
    | (have _q := K2; clear K2; refine wpList_alloc_rec rfl 26 rfl (supC sup0 none 0) w2.heap.size rfl zero_super ?_; intro W3 R3 B3 z3)
    | (have _q := K3; clear K3; refine wpList_store_rec rfl 26 (.tmp 6) (.tmp 24) rfl w2.heap.size 0 _ (supC s a C2) rfl rfl R3 rfl (by kernel_rfl) (supC_one _ _ _) ?_; intro W4 R4 B4
       have R5 := (R2.below B3).but B4 (by have := R2.2.2; omega)
       have E3 : Below w2.heap.size w2 W4 := B3.trans (B4.below (Nat.le_refl _) (by omega))
       have E4 : Below w.heap.size w W4 := E2.trans (E3.mono E2.size)
       have H4 : Hid (HArg W4 a s.k s.h) := HA.out.below E3
       clear R2 R3 B3 z3 B4 E2 HA E3)
    | (refine wpList_load_w (by rfl) 26 (.tmp 6) rfl w2.heap.size 0 (supC s a C2) rfl _ Try.underlying26 rfl (by kernel_rfl) R4 ?_)
    | (go_at_call 16; refine (check_any s a C2 _ H4.out).mono ?_; rintro e w5 ⟨rfl, B5⟩; rw [CV.out]; have R6 := R5.below B5; have R7 := R4.below B5; have HA5 : Hid (HArg w5 a s.k s.h) := H4.out.below B5; have E6 : Below w.heap.size w w5 := E4.trans (B5.mono E4.size); clear R5 E4 B5 H4 R4)
    | (have _q := K4; clear K4; refine wpList_load_rec rfl 26 (.tmp 6) rfl w2.heap.size 0 (supC s a C2) rfl _ Try.underlying26 rfl (by kernel_rfl) R7 ?_)
    | (refine wpList_store_rec rfl 26 (.tmp 2) (.tmp 34) rfl w.heap.size 0 _ (supC s a C2) rfl rfl R6 rfl (by kernel_rfl) (supC_one _ _ _) ?_; intro W9 R9 B9))
  have hl := R9.run_load 26 _ Try.underlying26 rfl (by kernel_rfl)
  refine bodyPost_ret (v := .tuple #[supV s a C2, .int .i64 0]) (by simp [results, Try.results12, asAddr, supV, hl]) rfl ⟨a, C2, by rw [ES.out], ?_, ?_, ?_, ?_⟩
  · rw [ES.out]
    exact HA5.out.off (Off.but (bs := [w.heap.size]) B9 (by simp)) (fun r hr => by have := NB.out r hr; simp; omega)
  · rw [ES.out]; exact KC.out
  · intro r hr; have := NB.out r hr; omega
  · exact E6.trans (B9.below (Nat.le_refl _) E6.size)
theorem read_ok512 (b off C : Nat) (F : Nat → Int) (w : World) (hL : Lies w b off 512 F) (hC : 512 ≤ C) (h : Whole F) : Calls Try.prog 12 #[.slice (some ⟨b, off, none⟩) 512 C] w (RdOk w F) := read_whole b off C F w hL hC h.1 h.2.1 h.2.2
theorem read_no512 (b off C : Nat) (F : Nat → Int) (w : World) (hL : Lies w b off 512 F) (hC : 512 ≤ C) (h : ¬ Whole F) : Calls Try.prog 12 #[.slice (some ⟨b, off, none⟩) 512 C] w fun e w' => e = .returned (.tuple #[supV sup0 none 0, .int .i64 (rdE F)]) ∧ Below w.heap.size w w' := by
  unfold rdE
  by_cases ho : opens 512 F = true
  · rw [if_pos ho]
    have hn : ¬ (SupOk (behO F) ∧ (supOf (behO F)).May) := fun q => h ⟨ho, q⟩
    rw [if_neg hn]
    by_cases hs : SupOk (behO F)
    · exact read_may b off C F w hL hC ho hs (fun q => hn ⟨hs, q⟩)
    · exact read_form b off C F w hL hC ho hs
  · rw [if_neg ho]
    exact read_seal b off C F w hL hC (Bool.eq_false_iff.2 ho)
theorem rdE_ne {F : Nat → Int} (h : ¬ Whole F) : rdE F = 4 ∨ rdE F = 12 := by
  unfold rdE
  by_cases ho : opens 512 F = true
  · rw [if_pos ho, if_neg (fun q => h ⟨ho, q⟩)]; exact .inl rfl
  · rw [if_neg ho]; exact .inr rfl
end Go.Proofs.Ytfapmogjmjlokaa
