/-
  Walks, not a claim by itself: how many blocks are so. By the verifier.
-/
import Derived.Test.YtkncnpjhfcfmnaaDoorFThr
namespace Go.Proofs.YtkncnpjhfcfmnaaDoor
open Go.RowKit Go.Shelf
attribute [local go_sem] Oper.semAt_some
/-- What each answers, made in a world of that size. -/
def eachV (H : Nat) : Value := .func (.func 56) #[] #[.pointer (some ⟨H, 0, none⟩), .pointer (some ⟨H + 1, 0, none⟩)]
def howV (b : Nat) : Value := .func (.func 49) #[.pointer (some ⟨b, 0, none⟩)] #[]
def eachW (W : World) (b n : Nat) : World := (W.alloc (.cells #[.int .i64 (n : Int)] 3)).alloc (.cells #[howV b] 58)
theorem each_ok (W : World) (b n : Nat) (h : Nat → Nat) (s : SAt W b n h) : Calls Tryd.prog 30 #[.pointer (some ⟨b, 0, none⟩)] W fun e w' => e = .returned (eachV W.heap.size) ∧ w' = eachW W b n := by
  have c1 := s.c1
  clear s
  have T := hidIt ((callsIn_wide (n := 1)).1 (through_in Fence.wide 1 trivial rfl (n : Int) 49 #[.pointer (some ⟨b, 0, none⟩)] #[] W))
  go_enter Tryd.func30, Tryd.ntmps30
  go_wp2_with (go_at_call 50; refine T.out.mono ?_; rintro e w' ⟨rfl, hw⟩; subst hw)
  go_ret
  exact ⟨rfl, rfl⟩
theorem eachW_size (W : World) (b n : Nat) : (eachW W b n).heap.size = W.heap.size + 1 + 1 := by simp [eachW]
theorem eachW_below (W : World) (b n : Nat) : Below W.heap.size W (eachW W b n) := ((Below.refl _ _).alloc (Nat.le_refl _) _).alloc (by simp) _
theorem eachW_mem (W : World) (b n : Nat) : ThrMem W.heap.size (W.heap.size + 1) n (howV b) (eachW W b n) := ⟨by simp [eachW, go_sem], by simp [eachW, go_sem]⟩
/-- How many of the first n are so. -/
def cnt (h : Nat → Nat) (x : Nat) : Nat → Nat
  | 0 => 0
  | n + 1 => cnt h x n + if h n = x then 1 else 0
theorem cnt_le (h : Nat → Nat) (x : Nat) : ∀ n, cnt h x n ≤ n
  | 0 => Nat.le_refl _
  | n + 1 => by have := cnt_le h x n; unfold cnt; split <;> omega
theorem ThrMem.below {Bn Bh n B : Nat} {v : Value} {W W' : World} (h : ThrMem Bn Bh n v W) (hb : Below B W W') (h1 : Bn < B) (h2 : Bh < B) : ThrMem Bn Bh n v W' :=
  ⟨(hb.cell (p := ⟨Bn, 0, none⟩) h1).trans h.cn, (hb.cell (p := ⟨Bh, 0, none⟩) h2).trans h.ch⟩
/-- What holds while blocks are counted: in W's next two blocks lie what is asked and how many there were. -/
structure CntI (W : World) (b n : Nat) (h : Nat → Nat) (Bn x : Nat) (k : Nat) (X : World) : Prop where
  m : ThrMem Bn (Bn + 1) n (howV b) X
  s : SAt X b n h
  c : X.cell? ⟨W.heap.size, 0, none⟩ = some (.int .i64 (x : Int))
  d : X.cell? ⟨W.heap.size + 1, 0, none⟩ = some (.int .i64 ((cnt h x k : Nat) : Int))
  f : X.frozen? ⟨W.heap.size + 1, 0, none⟩ = false
  b : Below W.heap.size W X
  z : W.heap.size + 1 + 1 ≤ X.heap.size
theorem SAt.belowB {W W' : World} {b n B : Nat} {h : Nat → Nat} (s : SAt W b n h) (hb : Below B W W') (hl : b < B) : SAt W' b n h :=
  ⟨(hb.cell (p := ⟨b, 0, none⟩) hl).trans s.c0, (hb.cell (p := ⟨b, 1, none⟩) hl).trans s.c1,
   ⟨fun j hj => (hb.cell (p := ⟨b, 2 + j, none⟩) hl).trans (s.fw.c j hj), fun j hj => (hb.frozen (p := ⟨b, 2 + j, none⟩) hl).trans (s.fw.f j hj), Nat.lt_of_lt_of_le s.l hb.size⟩,
   ⟨fun j hj => (hb.cell (p := ⟨b, 10 + j, none⟩) hl).trans (s.gw.c j hj), fun j hj => (hb.frozen (p := ⟨b, 10 + j, none⟩) hl).trans (s.gw.f j hj), Nat.lt_of_lt_of_le s.l hb.size⟩⟩
theorem CntI.below {W X X' : World} {b n Bn x k : Nat} {h : Nat → Nat} (i : CntI W b n h Bn x k X) (hb : Below (W.heap.size + 1 + 1) X X') (h1 : Bn + 1 < W.heap.size) (h2 : b < W.heap.size) : CntI W b n h Bn x k X' :=
  ⟨i.m.below hb (by omega) (by omega), i.s.belowB hb (by omega), (hb.cell (p := ⟨W.heap.size, 0, none⟩) (by show W.heap.size < _; omega)).trans i.c, (hb.cell (p := ⟨W.heap.size + 1, 0, none⟩) (by show W.heap.size + 1 < _; omega)).trans i.d, (hb.frozen (p := ⟨W.heap.size + 1, 0, none⟩) (by show W.heap.size + 1 < _; omega)).trans i.f, i.b.trans (hb.mono (by omega)), Nat.le_trans i.z hb.size⟩
theorem CntI.step {W X : World} {b n Bn x k : Nat} {h : Nat → Nat} (i : CntI W b n h Bn x k X) (h1 : Bn + 1 < W.heap.size) (h2 : b < W.heap.size) (he : h k = x) : CntI W b n h Bn x (k + 1) (X.setCell ⟨W.heap.size + 1, 0, none⟩ (.int .i64 (((cnt h x k : Nat) : Int) + 1))) ∧ KeepsFrom (W.heap.size + 1 + 1) X (X.setCell ⟨W.heap.size + 1, 0, none⟩ (.int .i64 (((cnt h x k : Nat) : Int) + 1))) := by
  have B : But (W.heap.size + 1) X (X.setCell ⟨W.heap.size + 1, 0, none⟩ (.int .i64 (((cnt h x k : Nat) : Int) + 1))) := But.set _ _ _
  have B1 := B.below (B := W.heap.size + 1) (Nat.le_refl _) (by have := i.z; omega)
  refine ⟨⟨i.m.below B1 (by omega) (by omega), i.s.belowB B1 (by omega), (B1.cell (p := ⟨W.heap.size, 0, none⟩) (by show W.heap.size < _; omega)).trans i.c, ?_, by simpa using i.f, i.b.trans (B1.mono (by omega)), by have := i.z; have := B.size; omega⟩, keeps_but B (by omega)⟩
  rw [World.cell?_setCell_same' _ _ _ (by rw [i.d]; rfl)]
  simp [cnt, he]
theorem CntI.skip {W X : World} {b n Bn x k : Nat} {h : Nat → Nat} (i : CntI W b n h Bn x k X) (he : h k ≠ x) : CntI W b n h Bn x (k + 1) X :=
  ⟨i.m, i.s, i.c, by rw [i.d]; simp [cnt, he], i.f, i.b, i.z⟩
set_option maxRecDepth 100000 in
set_option maxHeartbeats 1000000 in
theorem count_ok (W : World) (b n : Nat) (h : Nat → Nat) (Bn x : Nat) (s : SAt W b n h) (k : SOk n h) (hM : ThrMem Bn (Bn + 1) n (howV b) W) (hl : Bn + 1 < W.heap.size) : Calls Tryd.prog 45 #[eachV Bn, .int .i64 (x : Int)] W fun e w' => e = .returned (.int .i64 ((cnt h x n : Nat) : Int)) ∧ Below W.heap.size W w' := by
  refine (callsIn_wide (n := 5)).1 ?_
  have hb := s.l
  have S := hidIt s
  have K := hidIt k
  have M := hidIt hM
  clear s k hM
  refine callsIn_of_wp_marks Tryd.func45 rfl trivial ?_ rfl
  simp only [Tryd.ntmps45, List.size_toArray, List.length_cons, List.length_nil, Nat.reduceAdd, Nat.reduceSub, Array.replicate_succ, Array.replicate_zero, List.push_toArray, List.append_toArray, List.nil_append, List.cons_append]
  gi_wp2
  have I0 : CntI W b n h Bn x 0 ((W.alloc (.cells #[.int .i64 (x : Int)] 3)).alloc (.cells #[.int .i64 0] 3)) := by
    have B : Below W.heap.size W ((W.alloc (.cells #[.int .i64 (x : Int)] 3)).alloc (.cells #[.int .i64 0] 3)) := ((Below.refl _ _).alloc (Nat.le_refl _) _).alloc (by simp) _
    exact ⟨M.out.below B (by omega) hl, S.out.below B, by simp [go_sem], by simp [go_sem, cnt], by simp [go_sem], B, by simp⟩
  have z1 : ((W.alloc (.cells #[.int .i64 (x : Int)] 3)).alloc (.cells #[.int .i64 0] 3)).heap.size = W.heap.size + 1 + 1 := by simp
  generalize ((W.alloc (.cells #[.int .i64 (x : Int)] 3)).alloc (.cells #[.int .i64 0] 3)) = W1 at I0 z1 ⊢
  have n5 := K.out.n2
  refine range_thr (m := 5) 9 10 (by omega) Bn (Bn + 1) n n5 49 (fun _ _ => by simp [go_sem]) [.pointer (some ⟨b, 0, none⟩)] [] (fun i => ((h i : Nat) : Int)) rfl (CntI W b n h Bn x) (fun k X X' i hB => i.below (by rw [← z1]; exact hB) hl hb) (fun k X i => by rw [z1]; exact i.z) I0 (fun k X i => i.m) (fun k X hk i => (how_ok X b n h k (by omega) (K.out.le k) i.s).mono fun e w' q => ⟨q.1, q.2.1⟩) ?_ ?_
  · intro l k X hk hI hl1 hl2
    have i0 : Hid (∀ X', But l X X' → CntI W b n h Bn x k X') := fun X' hB => hI.below (hB.below (by omega) hI.z) hl hb
    clear hI I0
    rw [z1] at hl1 ⊢
    simp only [List.setIfInBounds_toArray, List.set_cons_zero, List.set_cons_succ]
    gi_wp2
    refine ⟨KeepsFrom.refl _ _, fun X2 hB2 hz2 => ?_⟩
    have I2 := i0.out X2 hB2
    clear i0 hB2 hz2
    have c1 := I2.c
    have d1 := I2.d
    have f1 := I2.f
    by_cases he : h k = x
    · have e1 : (((h k : Nat) : Int) == (x : Int)) = true := by simp [he]
      have st := hidIt (I2.step hl hb he)
      have cl := cnt_le h x k
      have i1 : IntKind.i64.wrap (((cnt h x k : Nat) : Int) + 1) = ((cnt h x k : Nat) : Int) + 1 := by rw [IntKind.wrap_i64]; omega
      have i2 : wrap64 (((cnt h x k : Nat) : Int) + 1) = ((cnt h x k : Nat) : Int) + 1 := by unfold wrap64; omega
      clear I2 cl
      generalize ((h k : Nat) : Int) = hk' at e1
      gi_wp2
      exact ⟨st.out.2, st.out.1⟩
    · have e1 : (((h k : Nat) : Int) == (x : Int)) = false := by simpa using (fun q => he (by omega))
      have st := hidIt (I2.skip he)
      clear I2
      generalize ((h k : Nat) : Int) = hk' at e1
      gi_wp2
      exact ⟨KeepsFrom.refl _ _, st.out⟩
  · intro D X hD hI hd
    have d1 := hI.d
    have E := hidIt hI.b
    rw [z1] at hD
    clear hI I0
    gi_wp2
    refine And.intro (by simp) (Or.inl ⟨_, _, rfl, run_takeDeferred hd, ?_⟩)
    refine ⟨.int .i64 ((cnt h x n : Nat) : Int), by simp [results, Tryd.results45, go_sem], rfl, ?_⟩
    exact E.out.trans ((But.putO _ D _).below (by omega) E.out.size)
end Go.Proofs.YtkncnpjhfcfmnaaDoor
