/-
  Notions and walks, not a claim by itself: what find answers; readCopies. By the verifier.
-/
import Derived.Test.YtfapmogjmjlokaaSVote
import Derived.Test.YtfapmogjmjlokaaSRd
import Derived.Test.YtfapmogjmjlokaaDRead
import Derived.Test.YtfapmogjmjlokaaDThree
namespace Go.Proofs.Ytfapmogjmjlokaa
open Go.RowKit Go.Maps
/-- The cells of what is found. -/
def fndC (v : Value) (f : Nat → Int) (s : Sup) (a : Option Addr) (C : Nat) : List Value := [v] ++ cl .u8 512 f ++ supC s a C
theorem fndC_len (v : Value) (f : Nat → Int) (s : Sup) (a : Option Addr) (C : Nat) : (fndC v f s a C).length = 524 := by
  unfold fndC
  rw [List.length_append, List.length_append, cl_len, supC_len]
  rfl
theorem fndC_one (v : Value) (f : Nat → Int) (s : Sup) (a : Option Addr) (C : Nat) (hv : v.oneCell' = true) : ∀ u ∈ fndC v f s a C, u.oneCell' = true := by
  intro u hu
  unfold fndC at hu
  rcases List.mem_append.1 hu with q | q
  · rcases List.mem_append.1 q with q | q
    · simp at q; rw [q]; exact hv
    · exact cl_one _ _ _ _ q
  · exact supC_one _ _ _ _ q
/-- Nothing found. -/
def fnd0 : List Value := fndC (.slice none 0 0) (fun _ => 0) sup0 none 0
theorem zero_found : (Try.prog.info? 87).bind (·.zero) = some (.agg fnd0.toArray) := by kernel_rfl
theorem info_found : (Try.prog.info? 87).map (·.size) = some 524 := by kernel_rfl
theorem zero_image : (Try.prog.info? 85).bind (·.zero) = some (.agg (cl .u8 512 fun _ => 0).toArray) := by kernel_rfl
theorem info_image : (Try.prog.info? 85).map (·.size) = some 512 := by kernel_rfl
/-- A part of a record. -/
theorem Rec19.sub {W : World} {n : Nat} {xs ys zs : List Value} (h : Rec19 W n 0 (xs ++ ys ++ zs)) : Rec19 W n xs.length ys := by
  have e : ∀ j, j < ys.length → (xs ++ ys ++ zs)[xs.length + j]? = ys[j]? := fun j hj => by
    rw [List.append_assoc, List.getElem?_append_right (by omega), show xs.length + j - xs.length = j by omega, List.getElem?_append_left hj]
  refine ⟨fun j v hj => ?_, fun j hj => ?_, h.2.2⟩
  · have hl := (List.getElem?_eq_some_iff.1 hj).1
    have := h.1 (xs.length + j) v ((e j hl).trans hj)
    rwa [Nat.zero_add] at this
  · have := h.2.1 (xs.length + j) (by simp; omega)
    rwa [Nat.zero_add] at this
/-- A part of a record is stored. -/
theorem Rec19.subStore {W : World} {n : Nat} {xs ys zs : List Value} (h : Rec19 W n 0 (xs ++ ys ++ zs)) (vs : List Value) (hl : ys.length = vs.length) : Rec19 (W.setCells n xs.length vs) n 0 (xs ++ vs ++ zs) := by
  have hs := h.sub
  have len : (xs ++ vs ++ zs).length = (xs ++ ys ++ zs).length := by simp [hl]
  refine ⟨fun j v hj => ?_, fun j hj => ?_, by rw [size_cells]; exact h.2.2⟩
  · rw [Nat.zero_add]
    have hjl := (List.getElem?_eq_some_iff.1 hj).1
    by_cases q : xs.length ≤ j ∧ j < xs.length + vs.length
    · have := World.cell?_setCells_in n vs xs.length W (fun i hi => (hs.2.1 i (by omega)).1) (j - xs.length) (by omega)
      rw [show xs.length + (j - xs.length) = j by omega] at this
      rw [this, ← List.getElem?_eq_getElem, ← hj, List.append_assoc, List.getElem?_append_right q.1, List.getElem?_append_left (by omega)]
    · rw [World.cell?_setCells_out n _ _ _ _ (fun _ _ => by show j < xs.length ∨ xs.length + vs.length ≤ j; omega)]
      have e : (xs ++ ys ++ zs)[j]? = (xs ++ vs ++ zs)[j]? := by
        rcases Nat.lt_or_ge j xs.length with g | g
        · rw [List.append_assoc, List.append_assoc, List.getElem?_append_left g, List.getElem?_append_left g]
        · rw [List.getElem?_append_right (by simp; omega), List.getElem?_append_right (by simp; omega)]
          simp [hl]
      have := h.1 j v (e.trans hj)
      rwa [Nat.zero_add] at this
  · rw [len] at hj
    have t := h.2.1 j hj
    rw [Nat.zero_add] at t ⊢
    refine ⟨?_, by rw [World.frozen?_setCells]; exact t.2⟩
    by_cases q : xs.length ≤ j ∧ j < xs.length + vs.length
    · have := World.cell?_setCells_in n vs xs.length W (fun i hi => (hs.2.1 i (by omega)).1) (j - xs.length) (by omega)
      rw [show xs.length + (j - xs.length) = j by omega] at this
      rw [this]; rfl
    · rw [World.cell?_setCells_out n _ _ _ _ (fun _ _ => by show j < xs.length ∨ xs.length + vs.length ≤ j; omega)]
      exact t.1
/-- The open superblock, and its bytes, of the first k copies. -/
noncomputable def sB (G : Nat → Int) : Option Nat → Sup
  | none => sup0
  | some q => supOf (behO (cp G q))
def oF (G : Nat → Int) : Option Nat → Nat → Int
  | none => fun _ => 0
  | some q => cp G q
theorem sB_seq (G : Nat → Int) (b : Option Nat) : (sB G b).x 0 = seqB G b := by cases b <;> rfl
/-- What is found lies at f9. -/
def FndAt (W : World) (f9 : Nat) (v : Value) (G : Nat → Int) (b : Option Nat) (w0 : Nat) : Prop := ∃ a C, Rec19 W f9 0 (fndC v (oF G b) (sB G b) a C) ∧ HArg W a (sB G b).k (sB G b).h ∧ (sB G b).k ≤ C ∧ ∀ r, a = some r → w0 ≤ r.block ∧ r.block ≠ f9
theorem FndAt.off {W W' : World} {f9 : Nat} {v : Value} {G : Nat → Int} {b : Option Nat} {w0 : Nat} {bs : List Nat} (h : FndAt W f9 v G b w0) (hB : Off bs W W') (hf : f9 ∉ bs) (hr : ∀ r, r ∈ bs → r < w0 ∨ W.heap.size ≤ r) : FndAt W' f9 v G b w0 := by
  obtain ⟨a, C, h1, h2, h3, h4⟩ := h
  refine ⟨a, C, h1.off hB hf, ?_, h3, h4⟩
  rcases h2 with e | ⟨x, off, rfl, hc, hx⟩
  · exact .inl e
  · exact .inr ⟨x, off, rfl, fun j hj => (hB.cell (p := ⟨x, off + j, none⟩) hx (fun q => by have := (h4 _ rfl).1; rcases hr _ q with g | g; (· have g' : x < w0 := g; have t' : w0 ≤ x := this; omega); (· have g' : W.heap.size ≤ x := g; omega))).trans (hc j hj), Nat.lt_of_lt_of_le hx hB.size⟩
/-- What find answers. -/
def FindPost (W : World) (G : Nat → Int) (e : Ending) (w' : World) : Prop :=
  (best G 4 = none ∧ e = .returned (.tuple #[.agg fnd0.toArray, .int .i64 10]) ∧ Below W.heap.size W w') ∨
  (∃ q a C g, best G 4 = some q ∧ e = .returned (.tuple #[.agg (fndC (.slice (some ⟨g, 0, none⟩) 2048 2048) (cp G q) (supOf (behO (cp G q))) a C).toArray, .int .i64 0]) ∧ W.heap.size ≤ g ∧ Lies w' g 0 2048 G ∧ HArg w' a (supOf (behO (cp G q))).k (supOf (behO (cp G q))).h ∧ (supOf (behO (cp G q))).k ≤ C ∧ (∀ r, a = some r → W.heap.size ≤ r.block) ∧ Below W.heap.size W w')
/-- What readCopies answers. -/
def RcPost (W : World) (G : Nat → Int) (e : Ending) (w' : World) : Prop := ∃ g, e = .returned (.tuple #[.slice (some ⟨g, 0, none⟩) 2048 2048, .int .i64 0]) ∧ W.heap.size ≤ g ∧ IRow w' g .u8 2048 G ∧ Below W.heap.size W w'
theorem rc_ok (W : World) (d s m : Nat) (D : Dsk) (l : Int) (o : Bool) (h : DiskAt W d s m D) (hf : FuseIs W D.fz l o) (hu : D.up o = true) (hn : 8 ≤ D.N) : Calls Try.prog 50 #[.pointer (some ⟨d, 0, none⟩)] W (RcPost W D.sec) := by
  have RD : Hid (Calls Try.prog 31 #[.pointer (some ⟨d, 0, none⟩), .int .i64 0, .int .i64 8] W (ReadPost W 8 (fun j => D.sec (0 * 256 + j)))) := read_ok W d s m 0 8 D l o h hf hu (by omega)
  clear h hf hu
  go_enter Try.func50, Try.ntmps50
  go_wp2_with (go_at_call 31; refine RD.out.mono ?_; rintro e w1 ⟨rfl, R1, B1⟩)
  go_ret2
  exact ⟨W.heap.size, rfl, Nat.le_refl _, R1.congr (fun j _ => by rw [Nat.zero_mul, Nat.zero_add]), B1⟩
theorem rc_er (W : World) (p : Option Addr) (c : Int) (h : Calls Try.prog 31 #[.pointer p, .int .i64 0, .int .i64 8] W fun e w' => e = .returned (.tuple #[.slice none 0 0, .int .i64 c]) ∧ w' = W) : Calls Try.prog 50 #[.pointer p] W fun e w' => e = .returned (.tuple #[.slice none 0 0, .int .i64 c]) ∧ w' = W := by
  have RD : Hid (Calls Try.prog 31 #[.pointer p, .int .i64 0, .int .i64 8] W fun e w' => e = .returned (.tuple #[.slice none 0 0, .int .i64 c]) ∧ w' = W) := h
  clear h
  go_enter Try.func50, Try.ntmps50
  go_wp2_with (go_at_call 31; refine RD.out.mono ?_; rintro e w1 ⟨rfl, rfl⟩)
  go_ret2
  exact ⟨rfl, rfl⟩
end Go.Proofs.Ytfapmogjmjlokaa
