/-
  Walks, not a claim by itself: Write. By the verifier.
-/
import Derived.Test.YtfapmogjmjlokaaDWr1
namespace Go.Proofs.Ytfapmogjmjlokaa
open Go.RowKit Go.Maps
/-- What a Write that is done leaves. -/
def WrotePost (W : World) (d s m : Nat) (D D' : Dsk) (l : Int) (o : Bool) (bs : List Nat) (e : Ending) (w' : World) : Prop := e = .returned (.int .i64 0) ∧ DiskAt w' d s m D' ∧ FuseIs w' D.fz (fzLeft D.fz l) o ∧ Off (bs ++ D.fz.toList) W w'
theorem far_mem {d s m B x h : Nat} {fz : Option Nat} (q : x ∈ [d, s, m, B] ++ fz.toList) (hB : h ≤ B) : x ∈ [d, s, m] ++ fz.toList ∨ h ≤ x := by
  rw [List.mem_append] at q
  rcases q with q | q
  · have q' : x = d ∨ x = s ∨ x = m ∨ x = B := by simpa using q
    rcases q' with rfl | rfl | rfl | rfl
    · exact .inl (List.mem_append_left _ (by simp))
    · exact .inl (List.mem_append_left _ (by simp))
    · exact .inl (List.mem_append_left _ (by simp))
    · exact .inr hB
  · exact .inl (List.mem_append_right _ q)
theorem changeW_blow (W : World) (d s m : Nat) (cb : Array Value) (D : Dsk) (l : Int) (o : Bool) (h : DiskAt W d s m D) (hf : FuseIs W D.fz l o) (hq : FzOk D d s m) (hp : fzPass D.fz l = false) :
    Calls Try.prog 75 #[.pointer (some ⟨d, 0, none⟩), .func (.func 76) #[] cb] W (BlowPost W d s m D l) := by
  obtain ⟨c4, _⟩ := h.recd.cel 4 _ rfl
  have SP : Hid (∀ w1, FuseIs w1 D.fz (fzLeft D.fz l) (fzOut D.fz l o) → Off D.fz.toList W w1 → BlowPost W d s m D l (.returned (.int .i64 11)) w1) := fun w1 h1 h2 => stop_post h hq hp h1 h2
  have HF : Hid (FuseIs W D.fz l o) := hf
  have HP : Hid (fzPass D.fz l = false) := hp
  clear h hf hq hp
  go_enter Try.func75, Try.ntmps75
  go_wp2_with (go_at_call 88; refine (pass_any _ D.fz l o HF.out).mono ?_; rintro e w1 ⟨rfl, h1, h2⟩; rw [HP.out]; have PP : Hid (BlowPost W d s m D l (.returned (.int .i64 11)) w1) := SP.out w1 h1 h2; clear h1 h2)
  go_ret
  exact PP.out
/-- What the closure is handed. -/
structure WrArg (W : World) (d s m B3 B4 B5 b off c C a : Nat) (D : Dsk) (f : Nat → Int) : Prop where
  c5 : W.cell? ⟨B5, 0, none⟩ = some (.slice (some ⟨b, off, none⟩) (c * 256) C)
  c3 : W.cell? ⟨B3, 0, none⟩ = some (.pointer (some ⟨d, 0, none⟩))
  c4 : W.cell? ⟨B4, 0, none⟩ = some (.int .i64 (a : Int))
  f4 : W.frozen? ⟨B4, 0, none⟩ = false
  hL : Lies W b off (c * 256) f
  hc : c ≤ 8
  hC : c * 256 ≤ C
  ha : a + c ≤ D.N
  l3 : B3 < W.heap.size
  l4 : B4 < W.heap.size
  l5 : B5 < W.heap.size
  n3 : B3 ∉ [s, m, B4]
  n4 : B4 ∉ [d, s, m]
  nb : b ∉ [s, m, B4]
theorem WrArg.past {W W1 : World} {d s m B3 B4 B5 b off c C a : Nat} {D : Dsk} {f : Nat → Int} (h : WrArg W d s m B3 B4 B5 b off c C a D f) (hO : Off D.fz.toList W W1) (hq : ∀ q, D.fz = some q → q ≠ B3 ∧ q ≠ B4 ∧ q ≠ B5 ∧ q ≠ b) : WrArg W1 d s m B3 B4 B5 b off c C a D f :=
  { h with
    c5 := (hO.cell (p := ⟨B5, 0, none⟩) h.l5 (fun q => (hq _ (fz_mem q)).2.2.1 rfl)).trans h.c5
    c3 := (hO.cell (p := ⟨B3, 0, none⟩) h.l3 (fun q => (hq _ (fz_mem q)).1 rfl)).trans h.c3
    c4 := (hO.cell (p := ⟨B4, 0, none⟩) h.l4 (fun q => (hq _ (fz_mem q)).2.1 rfl)).trans h.c4
    f4 := (hO.frozen (p := ⟨B4, 0, none⟩) h.l4 (fun q => (hq _ (fz_mem q)).2.1 rfl)).trans h.f4
    hL := h.hL.off hO (fun q => (hq _ (fz_mem q)).2.2.2 rfl)
    l3 := Nat.lt_of_lt_of_le h.l3 hO.size
    l4 := Nat.lt_of_lt_of_le h.l4 hO.size
    l5 := Nat.lt_of_lt_of_le h.l5 hO.size }
theorem changeW_ok (W : World) (d s m B3 B4 B5 b off c C a : Nat) (D : Dsk) (f : Nat → Int) (l : Int) (o : Bool) (h : DiskAt W d s m D) (hf : FuseIs W D.fz l o) (hq : FzOk D d s m) (hp : fzPass D.fz l = true)
    (hw : WrArg W d s m B3 B4 B5 b off c C a D f) (hBq : ∀ q, D.fz = some q → q ≠ B3 ∧ q ≠ B4 ∧ q ≠ B5 ∧ q ≠ b) (ho : 0 ≤ D.ops ∧ D.ops ≤ 1000000) :
    Calls Try.prog 75 #[.pointer (some ⟨d, 0, none⟩), .func (.func 76) #[] #[.pointer (some ⟨B5, 0, none⟩), .pointer (some ⟨B3, 0, none⟩), .pointer (some ⟨B4, 0, none⟩)]] W (WrotePost W d s m D (D.wrote a f c).more l o [d, s, m, B4]) := by
  obtain ⟨c4, _⟩ := h.recd.cel 4 _ rfl
  have HD : Hid (DiskAt W d s m D) := h
  have HQ : Hid (FzOk D d s m) := hq
  have HF : Hid (FuseIs W D.fz l o) := hf
  have HP : Hid (fzPass D.fz l = true) := hp
  have HW : Hid (WrArg W d s m B3 B4 B5 b off c C a D f) := hw
  have HBQ : Hid (∀ q, D.fz = some q → q ≠ B3 ∧ q ≠ B4 ∧ q ≠ B5 ∧ q ≠ b) := hBq
  have w1' : wrap64 (D.ops + 1) = D.ops + 1 := by unfold wrap64; omega
  have w2' : IntKind.i64.wrap (D.ops + 1) = D.ops + 1 := by rw [IntKind.wrap_i64]; omega
  clear h hf hq hp hw hBq
  go_enter Try.func75, Try.ntmps75
  go_wp2_with (first
    | (go_at_call 88; refine (pass_any _ D.fz l o HF.out).mono ?_; rintro e w1 ⟨rfl, h1, h2⟩; rw [HP.out]; rw [fzOut_pass HP.out] at h1
       have F1 : Hid (FuseIs w1 D.fz (fzLeft D.fz l) o) := h1
       have O1 : Hid (Off D.fz.toList W w1) := h2
       have W1 : Hid (WrArg w1 d s m B3 B4 B5 b off c C a D f) := HW.out.past h2 HBQ.out
       clear h1 h2)
    | (go_at_call 76; refine (write1_ok _ d s m B3 B4 B5 b off c C a D f (HD.out.past O1.out HQ.out) W1.out.c5 W1.out.c3 W1.out.c4 W1.out.f4 W1.out.hL W1.out.hc W1.out.hC W1.out.ha W1.out.l3 W1.out.l4 W1.out.n3 W1.out.n4 W1.out.nb).mono ?_; rintro e w2 ⟨rfl, h1, h2⟩
       obtain ⟨c3, f3⟩ := h1.recd.cel 3 _ rfl
       have c3' : w2.cell? ⟨d, 3, none⟩ = some (.int .i64 D.ops) := by rw [c3, Dsk.wrote_ops]
       have PP : Hid (WrotePost W d s m D (D.wrote a f c).more l o [d, s, m, B4] (.returned (.int .i64 0)) (w2.setCell ⟨d, 3, none⟩ (.int .i64 (D.ops + 1)))) := by
         have O3 : Off [d, s, m, B4] w1 (w2.setCell ⟨d, 3, none⟩ (.int .i64 (D.ops + 1))) := (h2.mono (fun x q => List.mem_cons_of_mem _ q)).trans (Off.set _ _ _ (by simp))
         have b1 := h1.bump
         rw [Dsk.wrote_ops] at b1
         exact ⟨rfl, b1, F1.out.off O3 (fun q hq => by have g1 := HQ.out q hq; have g2 := HBQ.out q hq; simp; omega), (O1.out.mono (fun _ q => List.mem_append_right _ q)).trans (O3.mono (fun _ q => List.mem_append_left _ q))⟩
       clear h1 h2 c3 O1 F1))
  go_ret
  exact PP.out
/-- The world in which Write has its arguments in boxes. -/
def boxW (W : World) (d : Nat) (x : Int) (v : Value) : World := ((W.alloc (.cells #[.pointer (some ⟨d, 0, none⟩)] 42)).alloc (.cells #[.int .i64 x] 3)).alloc (.cells #[v] 27)
theorem boxW_below (W : World) (d : Nat) (x : Int) (v : Value) : Below W.heap.size W (boxW W d x v) := (((Below.refl _ _).alloc (Nat.le_refl _) _).alloc (by simp) _).alloc (by simp; omega) _
theorem boxW_size (W : World) (d : Nat) (x : Int) (v : Value) : (boxW W d x v).heap.size = W.heap.size + 1 + 1 + 1 := by simp [boxW]
theorem write_down (W : World) (d s m : Nat) (D : Dsk) (l : Int) (o : Bool) (x : Int) (p : Option Addr) (n C : Nat) (h : DiskAt W d s m D) (hf : FuseIs W D.fz l o) (hu : D.up o = false) :
    Calls Try.prog 62 #[.pointer (some ⟨d, 0, none⟩), .int .i64 x, .slice p n C] W fun e w' => e = .returned (.int .i64 11) ∧ Below W.heap.size W w' := by
  have HD : Hid (DiskAt (boxW W d x (.slice p n C)) d s m D) := h.below (boxW_below _ _ _ _)
  have HF : Hid (FuseIs (boxW W d x (.slice p n C)) D.fz l o) := hf.below (boxW_below _ _ _ _)
  have BB : Hid (Below W.heap.size W (boxW W d x (.slice p n C))) := boxW_below _ _ _ _
  have HU : Hid (D.up o = false) := hu
  unfold boxW at HD HF BB
  clear h hf hu
  go_enter Try.func62, Try.ntmps62
  go_wp2_with (go_at_call 52; refine (ready_ok _ d s m D l o HD.out HF.out).mono ?_; rintro e w1 ⟨rfl, rfl⟩; rw [HU.out, if_neg (by simp)])
  go_ret
  exact ⟨rfl, BB.out⟩
theorem write_arg (W : World) (d s m : Nat) (D : Dsk) (l : Int) (o : Bool) (x : Int) (p : Option Addr) (n C : Nat) (h : DiskAt W d s m D) (hf : FuseIs W D.fz l o) (hu : D.up o = true) (hn : n = 0 ∨ n % 256 ≠ 0) :
    Calls Try.prog 62 #[.pointer (some ⟨d, 0, none⟩), .int .i64 x, .slice p n C] W fun e w' => e = .returned (.int .i64 2) ∧ Below W.heap.size W w' := by
  have HD : Hid (DiskAt (boxW W d x (.slice p n C)) d s m D) := h.below (boxW_below _ _ _ _)
  have HF : Hid (FuseIs (boxW W d x (.slice p n C)) D.fz l o) := hf.below (boxW_below _ _ _ _)
  have BB : Hid (Below W.heap.size W (boxW W d x (.slice p n C))) := boxW_below _ _ _ _
  have HU : Hid (D.up o = true) := hu
  unfold boxW at HD HF BB
  clear h hf hu
  by_cases z : n = 0
  · subst z
    clear hn
    go_enter Try.func62, Try.ntmps62
    go_wp2_with (go_at_call 52; refine (ready_ok _ d s m D l o HD.out HF.out).mono ?_; rintro e w1 ⟨rfl, rfl⟩; rw [HU.out, if_pos rfl])
    go_ret
    exact ⟨rfl, BB.out⟩
  · have e1 : ¬ (n : Int) = 0 := by omega
    have e2 : ((n : Int).tmod 256 != 0) = true := by rw [Int.tmod_eq_emod_of_nonneg (by omega)]; simp; omega
    have e3 : ((n : Int) % 256 != 0) = true := by simp; omega
    have e5 : ((n : Int) == 0) = false := by simp; omega
    clear hn
    go_enter Try.func62, Try.ntmps62
    go_wp2_with (go_at_call 52; refine (ready_ok _ d s m D l o HD.out HF.out).mono ?_; rintro e w1 ⟨rfl, rfl⟩; rw [HU.out, if_pos rfl])
    go_ret
    exact ⟨rfl, BB.out⟩
theorem boxW_arg (W : World) (d s m a b off c C : Nat) (D : Dsk) (f : Nat → Int) (h : DiskAt W d s m D) (hL : Lies W b off (c * 256) f) (hc : c ≤ 8) (hC : c * 256 ≤ C) (ha : a + c ≤ D.N) (hb : b ≠ s ∧ b ≠ m) :
    WrArg (boxW W d a (.slice (some ⟨b, off, none⟩) (c * 256) C)) d s m W.heap.size (W.heap.size + 1) (W.heap.size + 1 + 1) b off c C a D f := by
  have dl := h.dl
  have sl := h.sl
  have ml := h.ml
  have bl := hL.2.2
  have z := boxW_size W d a (.slice (some ⟨b, off, none⟩) (c * 256) C)
  refine ⟨by simp [boxW, go_sem], by simp [boxW, go_sem], by simp [boxW, go_sem], by simp [boxW, go_sem], hL.below (boxW_below _ _ _ _), hc, hC, ha, by omega, by omega, by omega, by simp; omega, by simp; omega, by simp; omega⟩
set_option maxRecDepth 100000 in
theorem write_ok (W : World) (d s m a b off c C : Nat) (D : Dsk) (f : Nat → Int) (l : Int) (o : Bool) (h : DiskAt W d s m D) (hf : FuseIs W D.fz l o) (hq : FzOk D d s m) (hu : D.up o = true) (hp : fzPass D.fz l = true) (hL : Lies W b off (c * 256) f) (hc1 : 1 ≤ c) (hc : c ≤ 8) (hC : c * 256 ≤ C) (ha : a + c ≤ D.N) (hb : b ≠ s ∧ b ≠ m)
    (hql : ∀ q, D.fz = some q → q < W.heap.size ∧ q ≠ b) (ho : 0 ≤ D.ops ∧ D.ops ≤ 1000000) :
    Calls Try.prog 62 #[.pointer (some ⟨d, 0, none⟩), .int .i64 (a : Int), .slice (some ⟨b, off, none⟩) (c * 256) C] W (WrotePost W d s m D (D.wrote a f c).more l o [d, s, m]) := by
  have HD : Hid (DiskAt (boxW W d a (.slice (some ⟨b, off, none⟩) (c * 256) C)) d s m D) := h.below (boxW_below _ _ _ _)
  have HF : Hid (FuseIs (boxW W d a (.slice (some ⟨b, off, none⟩) (c * 256) C)) D.fz l o) := hf.below (boxW_below _ _ _ _)
  have BB : Hid (Below W.heap.size W (boxW W d a (.slice (some ⟨b, off, none⟩) (c * 256) C))) := boxW_below _ _ _ _
  have WA : Hid (WrArg (boxW W d a (.slice (some ⟨b, off, none⟩) (c * 256) C)) d s m W.heap.size (W.heap.size + 1) (W.heap.size + 1 + 1) b off c C a D f) := boxW_arg W d s m a b off c C D f h hL hc hC ha hb
  have HU : Hid (D.up o = true) := hu
  have n2 := h.n2
  have HH : Hid (hasB D.N a c = true) := by show hasB D.N a c = true; unfold hasB; simp; omega
  have QQ : Hid (∀ q, D.fz = some q → q ≠ W.heap.size ∧ q ≠ W.heap.size + 1 ∧ q ≠ W.heap.size + 1 + 1 ∧ q ≠ b) := fun q e => by have := hql q e; omega
  have e1 : ¬ (c : Int) * 256 = 0 := by omega
  have e2 : ((c : Int) * 256).tmod 256 = 0 := Int.mul_tmod_left _ _
  have e3 : ((c : Int) * 256).tdiv 256 = c := Int.mul_tdiv_cancel _ (by decide)
  have e4 : ¬ c = 0 := by omega
  unfold boxW at HD HF BB WA
  clear h hf hu hL hql
  go_enter Try.func62, Try.ntmps62
  go_wp2_with (first
    | (go_at_call 52; refine (ready_ok _ d s m D l o HD.out HF.out).mono ?_; rintro e w1 ⟨rfl, rfl⟩; rw [HU.out, if_pos rfl])
    | (go_at_call 53; refine (has_ok _ d s m D a c HD.out (by omega)).mono ?_; rintro e w1 ⟨rfl, rfl⟩; rw [HH.out])
    | (go_at_call 75; refine (changeW_ok _ d s m W.heap.size (W.heap.size + 1) (W.heap.size + 1 + 1) b off c C a D f l o HD.out HF.out hq hp WA.out QQ.out ho).mono ?_; rintro e w2 ⟨rfl, h1, h2, h3⟩
       have PP : Hid (WrotePost W d s m D (D.wrote a f c).more l o [d, s, m] (.returned (.int .i64 0)) w2) := ⟨rfl, h1, h2, (Off.of BB.out).far h3 (fun x q => far_mem q (by omega))⟩
       clear h1 h2 h3))
  go_ret
  exact PP.out
end Go.Proofs.Ytfapmogjmjlokaa
