/-
  Walks, not a claim by itself: the law's tables, and levels of one's own as a whole. By the verifier.
-/
import Derived.Test.YtelcijfcgflagaaLvKt
import Derived.Test.YtelcijfcgflagaaLvAd
import Derived.Test.YtelcijfcgflagaaRunW
import Derived.Laws.IdiomStrings
namespace Go.Proofs.Ytelcijfcgflagaa
open Go.RowKit
theorem conv_txtR (W : World) (s : ByteArray) (N : List Nat) (hN : ∀ b, b ∈ N → b < W.heap.size) : ∃ cap W', (convert 9 43 (.string s)).run Try.prog W = .ok (.slice (some ⟨W.heap.size, 0, none⟩) s.size cap) W' ∧ Txt W' N (.slice (some ⟨W.heap.size, 0, none⟩) s.size cap) s ∧ Below W.heap.size W W' := by
  refine ⟨_, _, run_bytes_of_string (P := Try.prog) W 9 43 5 s Try.underlying9 Try.underlying43 Try.underlying5, ?_, (Below.refl _ _).drew.alloc (Nat.le_refl _) _⟩
  refine ⟨_, _, fun j => ((s.data.toList[j]?.getD 0).toNat : Int), rfl, ?_, ?_, fun _ q hq h => by injection hq with hq; subst hq; have := hN _ h; simp at this⟩
  · by_cases h0 : s.size = 0
    · exact .inl ⟨h0, .inr ⟨_, rfl⟩⟩
    · refine .inr ⟨by omega, W.heap.size, 0, rfl, fun j hj => ?_, fun j _ => (show (0 : Int) ≤ ((s.data.toList[j]?.getD 0).toNat : Int) ∧ ((s.data.toList[j]?.getD 0).toNat : Int) < 256 from ⟨by omega, by have := (s.data.toList[j]?.getD 0).toNat_lt; omega⟩), by simp⟩
      show (W.drew.alloc _).cell? ⟨W.drew.heap.size, 0 + j, none⟩ = _
      rw [cell_of_row _ _ _ _ _ _ (heap_alloc_new _ _), Nat.zero_add]
      have hj' : j < s.data.size := hj
      have := bytesRow_at s (grownCap W s.size 0 5) j hj
      rw [this]
      simp only [Array.getElem?_toList]
      rw [Array.getElem?_eq_getElem hj']
      rfl
  · apply ByteArray.ext
    apply Array.toList_inj.1
    apply List.ext_getElem?
    intro j
    by_cases hj : j < s.size
    · rw [txtN_at _ _ j hj]
      have hj' : j < s.data.toList.length := by rw [Array.length_toList]; exact hj
      rw [List.getElem?_eq_getElem hj']
      simp
    · rw [List.getElem?_eq_none (by have : (txtN s.size fun j => ((s.data.toList[j]?.getD 0).toNat : Int)).data.toList.length = s.size := (by rw [Array.length_toList]; exact txtN_size _ _); omega), List.getElem?_eq_none (by rw [Array.length_toList]; exact Nat.not_lt.1 hj)]
/-- What run answers. -/
def RnPost (W : World) (M : List Nat) (r : Rn) (e : Ending) (w' : World) : Prop := ∃ y : RV, y.r = r ∧ e = .returned (.agg y.cs.toArray) ∧ RVOk w' M y ∧ Below W.heap.size W w'
set_option maxRecDepth 100000 in
set_option maxHeartbeats 1000000 in
theorem lrun_any (W : World) (M : List Nat) (hM : ∀ b, b ∈ M → b < W.heap.size) (z : Int) (f l : ByteArray) : Calls Try.prog 59 #[.int .i64 z, .string f, .string l] W (RnPost W M ⟨z, 0, 1, f, l⟩) := by
  have HM := hidIt hM
  clear hM
  go_enter Try.func59, Try.ntmps59
  go_wp2_with (first
    | (refine wpList_alloc_rec rfl 45 rfl _ W.heap.size rfl run_zero ?_; intro W1 R1 B1 z1; obtain ⟨c1, W2, hr2, T2, B2⟩ := conv_txtR W1 f (W.heap.size :: M) (fun b hb => by rcases List.mem_cons.1 hb with rfl | hb; omega; have := HM.out b hb; omega); obtain ⟨c2, W3, hr3, T3, B3⟩ := conv_txtR W2 l (W.heap.size :: M) (fun b hb => by have := B2.size; rcases List.mem_cons.1 hb with rfl | hb; omega; have := HM.out b hb; omega); have B13 := B2.trans (B3.mono B2.size); have P3 := hidIt (R1.below B13); have E3 := hidIt (B1.trans (B13.mono (by omega))); have X3 := hidIt (And.intro (T2.below B3) T3); clear R1 B1 z1 T2 T3 B2 B3 B13)
    | (refine wpList_run_w rfl _ W2 (show (execOp _ _).run Try.prog _ = _ by unfold execOp; simp only [Act.eval]; simp [hr2, Result.andThen]) ?_; clear hr2)
    | (refine wpList_run_w rfl _ W3 (show (execOp _ _).run Try.prog _ = _ by unfold execOp; simp only [Act.eval]; simp [hr3, Result.andThen]) ?_; clear hr3)
    | (refine wpList_store_rec rfl 45 (.tmp 6) (.tmp 13) rfl W.heap.size 0 _ (RV.mk (.slice (some ⟨W1.heap.size, 0, none⟩) f.size c1) (.slice (some ⟨W2.heap.size, 0, none⟩) l.size c2) ⟨z, 0, 1, f, l⟩).cs rfl rfl P3.out rfl run_size (by intro u hu; simp only [RV.cs, List.mem_cons, List.not_mem_nil, or_false] at hu; rcases hu with rfl | rfl | rfl | rfl | rfl <;> rfl) ?_; intro W4 R4 B4; have P4 := hidIt R4; have E4 := hidIt (And.intro (E3.out.trans (B4.below (Nat.le_refl _) E3.out.size)) B4); clear R4 B4))
  have hl := P4.out.run_load 45 _ Try.underlying45 rfl run_size
  have O4 : Off (W.heap.size :: M) W3 W4 := Off.but E4.out.2 (by simp)
  exact bodyPost_ret (v := .agg (RV.mk (.slice (some ⟨W1.heap.size, 0, none⟩) f.size c1) (.slice (some ⟨W2.heap.size, 0, none⟩) l.size c2) ⟨z, 0, 1, f, l⟩).cs.toArray) (by simp [results, Try.results59, asAddr, Act.put, hl]) rfl ⟨RV.mk (.slice (some ⟨W1.heap.size, 0, none⟩) f.size c1) (.slice (some ⟨W2.heap.size, 0, none⟩) l.size c2) ⟨z, 0, 1, f, l⟩, rfl, rfl, ⟨(X3.out.1.off O4).mono (fun b hb => .inl (List.mem_cons_of_mem _ hb)), (X3.out.2.off O4).mono (fun b hb => .inl (List.mem_cons_of_mem _ hb))⟩, E4.out.1⟩
def T1 : Rn := ⟨1, 0, 1, ⟨#[97]⟩, ⟨#[99]⟩⟩
def T2 : Rn := ⟨2, 0, 1, ⟨#[98]⟩, ⟨#[100]⟩⟩
set_option maxRecDepth 100000 in
theorem lt1_any (W : World) : Calls Try.prog 41 #[] W (RnPost W [] T1) := by
  go_enter Try.func41, Try.ntmps41
  go_wp2_with (first
    | (refine wpList_alloc_rec rfl 45 rfl _ W.heap.size rfl run_zero ?_; intro W1 R1 B1 z1; have E1 := hidIt (And.intro B1 z1); have P1 := hidIt R1; clear R1 B1 z1)
    | (go_at_call 59; refine (lrun_any W1 [W.heap.size] (fun b hb => by rcases List.mem_singleton.1 hb with rfl; have := E1.out.2; omega) 1 ⟨#[97]⟩ ⟨#[99]⟩).mono ?_; rintro e W2 ⟨y, hy, rfl, hok, hb⟩; have E2 := hidIt (E1.out.1.trans (hb.mono (by have := E1.out.2; omega))); have P2 := hidIt (P1.out.below hb); have Y2 := hidIt hok; have HY := hidIt hy; clear hy hok hb)
    | (refine wpList_store_rec rfl 45 (.tmp 0) (.tmp 1) rfl W.heap.size 0 _ y.cs rfl rfl P2.out rfl run_size Y2.out.one ?_; intro W3 R3 B3; have P3 := hidIt R3; have E3 := hidIt (And.intro (E2.out.trans (B3.below (Nat.le_refl _) E2.out.size)) B3); clear R3 B3))
  have hl := P3.out.run_load 45 _ Try.underlying45 rfl run_size
  exact bodyPost_ret (v := .agg y.cs.toArray) (by simp [results, Try.results41, asAddr, Act.put, hl]) rfl ⟨y, HY.out, rfl, (Y2.out.off (Off.but (bs := [W.heap.size]) E3.out.2 (by simp))).any, E3.out.1⟩
set_option maxRecDepth 100000 in
theorem lt2_any (W : World) : Calls Try.prog 42 #[] W (RnPost W [] T2) := by
  go_enter Try.func42, Try.ntmps42
  go_wp2_with (first
    | (refine wpList_alloc_rec rfl 45 rfl _ W.heap.size rfl run_zero ?_; intro W1 R1 B1 z1; have E1 := hidIt (And.intro B1 z1); have P1 := hidIt R1; clear R1 B1 z1)
    | (go_at_call 59; refine (lrun_any W1 [W.heap.size] (fun b hb => by rcases List.mem_singleton.1 hb with rfl; have := E1.out.2; omega) 2 ⟨#[98]⟩ ⟨#[100]⟩).mono ?_; rintro e W2 ⟨y, hy, rfl, hok, hb⟩; have E2 := hidIt (E1.out.1.trans (hb.mono (by have := E1.out.2; omega))); have P2 := hidIt (P1.out.below hb); have Y2 := hidIt hok; have HY := hidIt hy; clear hy hok hb)
    | (refine wpList_store_rec rfl 45 (.tmp 0) (.tmp 1) rfl W.heap.size 0 _ y.cs rfl rfl P2.out rfl run_size Y2.out.one ?_; intro W3 R3 B3; have P3 := hidIt R3; have E3 := hidIt (And.intro (E2.out.trans (B3.below (Nat.le_refl _) E2.out.size)) B3); clear R3 B3))
  have hl := P3.out.run_load 45 _ Try.underlying45 rfl run_size
  exact bodyPost_ret (v := .agg y.cs.toArray) (by simp [results, Try.results42, asAddr, Act.put, hl]) rfl ⟨y, HY.out, rfl, (Y2.out.off (Off.but (bs := [W.heap.size]) E3.out.2 (by simp))).any, E3.out.1⟩
/-- Four levels of one's own, as levels. -/
theorem Fo.lvs {B1 : Nat} {W : World} {g : Nat} {lv : Nat → Value} {os : Nat → List RV} (h : Fo B1 W g lv os) : ∃ ls : List LR, ls.length = 4 ∧ Lvs W (some ⟨g, 0, none⟩) ls ∧ (∀ i, i < 4 → ∃ x, ls[i]? = some x ∧ x.v = lv i ∧ x.rs = os i) ∧ rns ls = [(os 0).map RV.r, (os 1).map RV.r, (os 2).map RV.r, (os 3).map RV.r] := by
  have one : ∀ i, i < 4 → ∃ x : LR, LROk W x ∧ x.v = lv i ∧ x.rs = os i := fun i hi => by
    obtain ⟨a, c, hv, hc⟩ := (h.own i hi).sl
    have ho := h.own i hi
    rw [hv] at ho
    exact ⟨⟨a, c, os i⟩, ⟨ho.ls (fun x hx => ((h.oks i hi x hx).2).any), hc⟩, hv.symm, rfl⟩
  obtain ⟨x0, k0, v0, r0⟩ := one 0 (by omega)
  obtain ⟨x1, k1, v1, r1⟩ := one 1 (by omega)
  obtain ⟨x2, k2, v2, r2⟩ := one 2 (by omega)
  obtain ⟨x3, k3, v3, r3⟩ := one 3 (by omega)
  refine ⟨[x0, x1, x2, x3], rfl, ⟨fun x hx => ?_, fun _ => ⟨g, 0, rfl, ?_, h.rc.2.2⟩⟩, fun i hi => ?_, by simp [rns, r0, r1, r2, r3]⟩
  · simp only [List.mem_cons, List.not_mem_nil, or_false] at hx
    rcases hx with rfl | rfl | rfl | rfl
    · exact k0
    · exact k1
    · exact k2
    · exact k3
  · have := h.rc.1
    rw [← v0, ← v1, ← v2, ← v3] at this
    exact this
  · rcases (show i = 0 ∨ i = 1 ∨ i = 2 ∨ i = 3 by omega) with rfl | rfl | rfl | rfl
    · exact ⟨x0, rfl, v0, r0⟩
    · exact ⟨x1, rfl, v1, r1⟩
    · exact ⟨x2, rfl, v2, r2⟩
    · exact ⟨x3, rfl, v3, r3⟩
/-- A literal of tables, and of levels. -/
theorem bs_runs (W : World) (xs : List RV) (h : ∀ x ∈ xs, RVOk W [] x) : ∃ W', W' = W.alloc (.cells (rcs xs).toArray 45) ∧ LsR W' (some ⟨W.heap.size, 0, none⟩) xs ∧ Below W.heap.size W W' := by
  have B : Below W.heap.size W (W.alloc (.cells (rcs xs).toArray 45)) := (Below.refl _ _).alloc (Nat.le_refl _) _
  exact ⟨_, rfl, ⟨fun x hx => (h x hx).below B, fun _ => ⟨W.heap.size, 0, rfl, (Rec19.new W _ (rcs xs)).1, by simp⟩⟩, B⟩
theorem bs_levels (W : World) (ls : List LR) (h : ∀ x ∈ ls, LROk W x) : ∃ W', W' = W.alloc (.cells (ls.map LR.v).toArray 23) ∧ Lvs W' (some ⟨W.heap.size, 0, none⟩) ls ∧ Below W.heap.size W W' := by
  have B : Below W.heap.size W (W.alloc (.cells (ls.map LR.v).toArray 23)) := (Below.refl _ _).alloc (Nat.le_refl _) _
  exact ⟨_, rfl, ⟨fun x hx => (h x hx).below B, fun _ => ⟨W.heap.size, 0, rfl, (Rec19.new W _ (ls.map LR.v)).1, by simp⟩⟩, B⟩
/-- A block of one byte. -/
def Lit1 (W : World) (p : Nat) (c : Int) : Prop := ∃ fz, W.heap[p]? = some (.cells #[.int .u8 c] 5 fz)
theorem Lit1.keep {W W' : World} {p : Nat} {c : Int} (h : Lit1 W p c) (e : W'.heap[p]? = W.heap[p]?) : Lit1 W' p c := by obtain ⟨fz, h⟩ := h; exact ⟨fz, e.trans h⟩
theorem Lit1.lt {W : World} {p : Nat} {c : Int} (h : Lit1 W p c) : p < W.heap.size := by obtain ⟨fz, h⟩ := h; exact (Array.getElem?_eq_some_iff.1 h).1
theorem Lit1.txt {W : World} {p : Nat} {c : Int} (h : Lit1 W p c) (hc : 0 ≤ c ∧ c < 256) : Txt W [] (.slice (some ⟨p, 0, none⟩) 1 1) (txtN 1 (fun _ => c)) := by
  refine Txt.of (.inr ⟨by omega, p, 0, rfl, fun j hj => ?_, fun _ _ => hc, h.lt⟩)
  obtain rfl : j = 0 := by omega
  obtain ⟨fz, h⟩ := h
  rw [cell_of_row _ _ _ _ _ _ h]
  rfl
theorem lit_run {a : Act} {w : World} {o : Oper} (c : Int) (ho : o.op = .buildSlice 43 1 #[(0, .const (.int .u8 c))]) : (execOp a.eval o).run Try.prog w = .ok (.value (.slice (some ⟨w.heap.size, 0, none⟩) 1 1)) (w.alloc (.cells #[.int .u8 c] 5)) :=
  bsl_run 43 5 1 _ ho 1 1 (.int .u8 0) #[.int .u8 c] [(0, .int .u8 c)] Try.underlying43 (by kernel_rfl) (by decide) (by decide) (by simp [Act.eval]) (by kernel_rfl)
theorem lit_new (w : World) (c : Int) : Lit1 (w.alloc (.cells #[.int .u8 c] 5)) w.heap.size c ∧ Below w.heap.size w (w.alloc (.cells #[.int .u8 c] 5)) := ⟨⟨_, World.alloc_heap_new w _⟩, (Below.refl _ _).alloc (Nat.le_refl _) _⟩
theorem lconv_run {a : Act} {w : World} {o : Oper} (x : Operand) (ho : o.op = .convert 43 43 x) (p : Nat) (c : Int) (hx : a.eval x = .slice (some ⟨p, 0, none⟩) 1 1) (h : Lit1 w p c) : (execOp a.eval o).run Try.prog w = .ok (.value (.slice (some ⟨p, 0, none⟩) 1 1)) (w.freeze ⟨p, 1, none⟩ 1) := by
  obtain ⟨fz, h⟩ := h
  have hsh : w.shape? p = some (5, 1) := by
    unfold World.shape?
    rw [h]
    rfl
  have hr : (convert 43 43 (.slice (some ⟨p, 0, none⟩) 1 1)).run Try.prog w = .ok (.slice (some ⟨p, 0, none⟩) 1 1) (w.freeze ⟨p, 1, none⟩ 1) := by simp [convert, run_underlying Try.underlying43, run_underlying Try.underlying5, markStringish, hsh]
  unfold execOp
  simp only [ho, hx, Sem.run_bind, hr, Result.andThen_ok]
  rfl
theorem lconv_new {w : World} {p : Nat} {c : Int} (h : Lit1 w p c) : Lit1 (w.freeze ⟨p, 1, none⟩ 1) p c ∧ But p w (w.freeze ⟨p, 1, none⟩ 1) := by
  obtain ⟨fz, h⟩ := h
  constructor
  · unfold World.freeze Lit1
    rw [if_neg (by decide)]
    simp only [Array.getElem?_modify, if_true, h]
    exact ⟨_, rfl⟩
  · unfold World.freeze
    rw [if_neg (by decide)]
    refine ⟨rfl, rfl, rfl, by simp, fun k hk hn => ?_⟩
    simp only [Array.getElem?_modify]
    rw [if_neg (fun e => hn e.symm)]
theorem aw_1 : (mayB [] && sndR T1) = true := by decide
theorem aw_2 : (mayB [[T1], [], [], []] && sndR T2) = true := by decide
theorem aw_3 : spD [[T2, T1], [], [], []] (txtN 1 (fun _ => 99)) .empty = [T2, T1] := by decide
theorem aw_4 : spD [[T2, T1], [], [], []] (txtN 1 (fun _ => 100)) (txtN 1 (fun _ => 101)) = [T2] := by decide
end Go.Proofs.Ytelcijfcgflagaa
