/-
  Walks, not a claim by itself: the tables of levels, gone through by a range over a function. By the verifier.
-/
import Derived.Test.YtelcijfcgflagaaLvMem
import Derived.Test.YtelcijfcgflagaaMtIter
import Derived.Test.YtelcijfcgflagaaDRegW
import Derived.Test.YtelcijfcgflagaaReg3
namespace Go.Proofs.Ytelcijfcgflagaa
open Go.RowKit Go.Shelf
attribute [local go_sem] Oper.semAt_some
/-- A range over a function of two values a round, outside of every other such loop. -/
theorem range_own2 {m : Nat} {gop : Operand} (p1 p2 : Tmp) {assign body : Code} {Q : Exit → Act → World → Prop} {a : Act} {w : World} (hm : 2 ≤ m) (gf : FuncId) (cap : Array Value) (N : Nat) (x1 x2 : Nat → Value)
    (hen : ∀ args V, (callFunc gf args).run Try.prog V = .ok (.enter gf args) V) (hg : a.eval gop = .func (.func gf) #[] cap) (I : Nat → World → Prop) (Ix : Code → World → Prop) (hI : OwnFrom w.heap.size I) (hIx : OwnFrom w.heap.size Ix) (hIB : ∀ k W W', I k W → Below W.heap.size W W' → I k W') (h0 : I 0 w)
    (hcall : ∀ (l : Nat) (J : Nat → World → Prop) (Jx : World → Prop), (∀ k W, J k W → I k W) → (∀ k W W', J k W → Below W.heap.size W W' → J k W') →
      (∀ k W, k < N → J k W → YieldAt Fence.wide (m - 1 - 1) Try.prog l #[x1 k, x2 k] W fun e W' => (e = .returned (.bool true) ∧ J (k + 1) W') ∨ (e = .returned (.bool false) ∧ Jx W')) →
      ∀ V, J 0 V → CallsIn Fence.wide (m - 1) Try.prog gf (#[.func (.yield l) #[] #[]] ++ cap) V fun e W' => (∃ v, e = .returned v) ∧ (J N W' ∨ Jx W'))
    (hround : ∀ (l k : Nat) (W : World), k < N → I k W → w.heap.size ≤ l → l < W.heap.size → (∃ r, W.heap[l]? = some (.loop r)) → assign.wpIn (Fence.wide.inRound l) (m - 1 - 1) Try.prog
      (Exit.then (fun a₁ W₁ => KeepsFrom w.heap.size W W₁ ∧ ∀ W₂, But l W₁ W₂ → W₂.heap.size = W₁.heap.size → body.wpIn (Fence.wide.inRound l) (m - 1 - 1) Try.prog (rndP w.heap.size I Ix k W₂) a₁ W₂) (fun _ _ _ => False))
      { tmps := (a.tmps.setIfInBounds p1 (x1 k)).setIfInBounds p2 (x2 k), defers := [] } W)
    (hdone : ∀ (D : Nat) (W : World), w.heap.size ≤ D → I N W → W.heap[D]? = some (.deferred (some [])) → Q .normal { a with defers := { target := .collected D, args := #[] } :: a.defers } W)
    (hstop : ∀ (D : Nat) (c : Code) (W : World), w.heap.size ≤ D → Ix c W → W.heap[D]? = some (.deferred (some [])) → c.wpIn Fence.wide m Try.prog Q { a with defers := { target := .collected D, args := #[] } :: a.defers } W) :
    (Code.rangeFunc gop #[p1, p2] assign body).wpIn Fence.wide m Try.prog Q a w := by
  refine wpIn_rangeFunc fun fn hfn => ?_
  obtain ⟨rc, hrc⟩ : ∃ rc : LoopState → Option Code → Loop, rc = fun st pe => { state := st, pending := pe, fn, tmps := a.tmps, params := #[p1, p2], assign, body, defers := w.heap.size } := ⟨_, rfl⟩
  obtain ⟨V, hV⟩ : ∃ V, (w.alloc (.deferred (some []))).alloc (.loop (rc .ready none)) = V := ⟨_, rfl⟩
  have cL : V.heap[w.heap.size + 1]? = some (.loop (rc .ready none)) := by
    rw [← hV]
    have := World.alloc_heap_new (w.alloc (.deferred (some []))) (.loop (rc .ready none))
    rwa [World.size_alloc] at this
  have cD : V.heap[w.heap.size]? = some (.deferred (some [])) := by
    rw [← hV]
    exact (Below.heap_alloc _ _ _ (by simp)).trans (World.alloc_heap_new w _)
  have iV : I 0 V := by rw [← hV]; exact hI.alloc _ (hI.alloc _ h0)
  refine ⟨w.heap.size + 1, [{ target := .collected w.heap.size, args := #[] }], V, { target := .fn (.func gf) cap, args := #[.func (.yield (w.heap.size + 1)) #[] #[]] }, V, gf,
    #[.func (.yield (w.heap.size + 1)) #[] #[]] ++ cap, V, ?_, ?_, fun _ _ => trivial, ?_, fun _ => by omega, ?_⟩
  · rw [← hV, hrc]
    exact run_enterLoop_outer _ _ _ _ _
  · simp only [resolve, hg]
    simp [go_sem]
  · simp [invoke, go_sem, hen]
  · refine (hcall (w.heap.size + 1)
      (fun k W => I k W ∧ W.heap[w.heap.size + 1]? = some (.loop (rc .ready none)) ∧ W.heap[w.heap.size]? = some (.deferred (some [])))
      (fun W => ∃ c, Ix c W ∧ W.heap[w.heap.size + 1]? = some (.loop (rc .done (some c))) ∧ W.heap[w.heap.size]? = some (.deferred (some [])))
      (fun k W h => h.1) (fun k W W' h hb => ⟨hIB k W W' h.1 hb, (hb.block _ (Array.getElem?_eq_some_iff.1 h.2.1).1).trans h.2.1, (hb.block _ (Array.getElem?_eq_some_iff.1 h.2.2).1).trans h.2.2⟩) ?_ V ⟨iV, cL, cD⟩).mono ?_
    · rintro k W hkN ⟨hi, hl, hd⟩
      have lt : w.heap.size + 1 < W.heap.size := (Array.getElem?_eq_some_iff.1 hl).1
      have hy := run_yield (P := Try.prog) (args := #[x1 k, x2 k]) hl (by rw [hrc]; rfl)
      rw [hrc] at hy
      have hy2 : (Instr.yield (w.heap.size + 1) #[x1 k, x2 k]).run Try.prog W = .ok (.round (w.heap.size + 1) fn ((a.tmps.setIfInBounds p1 (x1 k)).setIfInBounds p2 (x2 k)) assign body) W := by
        rw [hy]
        simp
      refine ⟨fn, _, assign, body, hy2, roundIn_of_wpIn hfn (wpIn_mono (hround (w.heap.size + 1) k W hkN hi (by omega) lt ⟨_, hl⟩) ?_)⟩
      intro e a₁ W₁ hE
      cases e with
      | normal =>
        obtain ⟨kf, hb⟩ := hE
        have hl1 := kf.same _ _ (by omega) hl rfl
        have hd1 := kf.same _ _ (Nat.le_refl _) hd rfl
        have hl2 := World.putObj_heap_same (w := W₁) (o := .loop { rc .ready none with state := .busy }) (Array.getElem?_eq_some_iff.1 hl1).1
        have hd2 : (W₁.putObj (w.heap.size + 1) (.loop { rc .ready none with state := .busy })).heap[w.heap.size]? = some (.deferred (some [])) := (World.putObj_heap_other (by omega)).trans hd1
        refine ⟨_, run_beginRound hl1 (by rw [hrc]), wpIn_mono (hb _ (But.putO W₁ _ _) (by simp [World.putObj])) ?_⟩
        have fin : ∀ (jump : Option Code) (W3 : World), KeepsFrom w.heap.size (W₁.putObj (w.heap.size + 1) (.loop { rc .ready none with state := .busy })) W3 →
            (Instr.endRound (w.heap.size + 1) jump).run Try.prog W3 = .ok (.bool jump.isNone) (W3.putObj (w.heap.size + 1) (.loop (rc (if jump.isNone then .ready else .done) jump))) ∧
            W3.heap[w.heap.size + 1]? = some (.loop { rc .ready none with state := .busy }) ∧
            (W3.putObj (w.heap.size + 1) (.loop (rc (if jump.isNone then .ready else .done) jump))).heap[w.heap.size + 1]? = some (.loop (rc (if jump.isNone then .ready else .done) jump)) ∧
            (W3.putObj (w.heap.size + 1) (.loop (rc (if jump.isNone then .ready else .done) jump))).heap[w.heap.size]? = some (.deferred (some [])) := fun jump W3 k3 => by
          have l3 := k3.same _ _ (by omega) hl2 rfl
          have r3 := run_endRound (P := Try.prog) jump l3
          rw [hrc] at r3 l3 ⊢
          exact ⟨r3, l3, World.putObj_heap_same (Array.getElem?_eq_some_iff.1 l3).1, (World.putObj_heap_other (by omega)).trans (k3.same _ _ (Nat.le_refl _) hd2 rfl)⟩
        intro e a3 W3 hp
        cases e with
        | normal =>
          obtain ⟨k3, i3⟩ := hp
          obtain ⟨r, l3, l4, d4⟩ := fin none W3 k3
          exact ⟨_, _, r, .inl ⟨rfl, hI.putObj _ i3 (by omega) l3 rfl, l4, d4⟩⟩
        | ret =>
          obtain ⟨k3, i3⟩ := hp
          obtain ⟨r, l3, l4, d4⟩ := fin (some .ret) W3 k3
          exact ⟨_, _, r, .inr ⟨rfl, .ret, hIx.putObj _ i3 (by omega) l3 rfl, l4, d4⟩⟩
        | exit id =>
          obtain ⟨k3, i3⟩ := hp
          obtain ⟨r, l3, l4, d4⟩ := fin (some (.exit id)) W3 k3
          exact ⟨_, _, r, .inr ⟨rfl, .exit id, hIx.putObj _ i3 (by omega) l3 rfl, l4, d4⟩⟩
        | goto t => exact hp.elim
        | panic ch => exact hp.elim
        | outgrown => exact hp.elim
      | _ => exact hE.elim
    · rintro e W2 ⟨⟨v, rfl⟩, (⟨hi, hl, hd⟩ | ⟨c, hi, hl, hd⟩)⟩
      · exact ⟨none, _, by have := run_endLoop (P := Try.prog) hl (by rw [hrc]; simp); rw [hrc] at this; exact this, hdone _ _ (Nat.le_refl _) (hI.putObj _ hi (by omega) hl rfl) ((World.putObj_heap_other (by omega)).trans hd)⟩
      · exact ⟨some c, _, by have := run_endLoop (P := Try.prog) hl (by rw [hrc]; simp); rw [hrc] at this; exact this, hstop _ c _ (Nat.le_refl _) (hIx.putObj _ hi (by omega) hl rfl) ((World.putObj_heap_other (by omega)).trans hd)⟩

/-- Where the tables of level i begin. -/
def offL : List LR → Nat → Nat
  | [], _ => 0
  | _ :: _, 0 => 0
  | x :: r, i + 1 => x.rs.length + offL r i
theorem offL_succ : ∀ (ls : List LR) (i : Nat) (x : LR), ls[i]? = some x → offL ls (i + 1) = offL ls i + x.rs.length
  | [], _, _, h => by cases h
  | y :: r, 0, x, h => by
    injection h with h
    subst h
    cases r <;> simp [offL]
  | y :: r, i + 1, x, h => by
    have := offL_succ r i x h
    simp only [offL] at this ⊢
    omega
theorem offL_zero (ls : List LR) : offL ls 0 = 0 := by cases ls <;> rfl
theorem offL_all : ∀ (b : Nat) (ls : List LR), offL ls ls.length = (flt b ls).length
  | _, [] => rfl
  | b, x :: r => by
    simp only [List.length_cons, offL, flt, List.length_append, List.length_map]
    rw [offL_all (b + 1) r]
theorem flt_at : ∀ (b : Nat) (ls : List LR) (i k : Nat) (x : LR) (y : RV), ls[i]? = some x → x.rs[k]? = some y → (flt b ls)[offL ls i + k]? = some (b + i, y)
  | _, [], _, _, _, _, h, _ => by cases h
  | b, z :: r, 0, k, x, y, h, hk => by
    injection h with h
    subst h
    have hl : k < z.rs.length := (List.getElem?_eq_some_iff.1 hk).1
    simp only [offL, flt, Nat.zero_add]
    rw [List.getElem?_append_left (by simpa using hl), List.getElem?_map, hk]
    rfl
  | b, z :: r, i + 1, k, x, y, h, hk => by
    simp only [offL, flt]
    rw [List.getElem?_append_right (by simp; omega), List.length_map, show z.rs.length + offL r i + k - z.rs.length = offL r i + k by omega, flt_at (b + 1) r i k x y h hk, show b + 1 + i = b + (i + 1) by omega]
theorem flt_has : ∀ (b : Nat) (ls : List LR) (j : Nat) (m : Nat) (y : RV), (flt b ls)[j]? = some (m, y) → ∃ i k x, ls[i]? = some x ∧ x.rs[k]? = some y ∧ j = offL ls i + k ∧ m = b + i
  | _, [], _, _, _, h => by cases h
  | b, z :: r, j, m, y, h => by
    simp only [flt] at h
    by_cases hj : j < z.rs.length
    · rw [List.getElem?_append_left (by simpa using hj), List.getElem?_map] at h
      cases e : z.rs[j]? with
      | none => rw [e] at h; cases h
      | some q =>
        rw [e] at h
        simp only [Option.map_some, Option.some.injEq, Prod.mk.injEq] at h
        exact ⟨0, j, z, rfl, by rw [e, h.2], by simp [offL], by omega⟩
    · rw [List.getElem?_append_right (by simp; omega), List.length_map] at h
      obtain ⟨i, k, x, h1, h2, h3, h4⟩ := flt_has (b + 1) r _ m y h
      exact ⟨i + 1, k, x, h1, h2, by simp only [offL]; omega, by omega⟩
/-- The closure's box, and what it names. -/
structure TbM (B : Nat) (A : Option Addr) (L C : Nat) (ls : List LR) (W : World) : Prop where
  bx : W.cell? ⟨B, 0, none⟩ = some (.slice A L C)
  lv : Lvs W A ls
theorem TbM.below {B L C : Nat} {A : Option Addr} {ls : List LR} {W W' : World} (h : TbM B A L C ls W) (hB : Below W.heap.size W W') : TbM B A L C ls W' := ⟨(Cks.below hB).cell h.bx, h.lv.below hB⟩
theorem tables_in (F : Fence) (m : Nat) (h5 : F.fn 44) (hro : F.round = none) (A : Option Addr) (L C : Nat) (w : World) :
    CallsIn F m Try.prog 44 #[.slice A L C] w fun e w' => e = .returned (.func (.func 61) #[] #[.pointer (some ⟨w.heap.size, 0, none⟩)]) ∧ w' = w.alloc (.cells #[.slice A L C] 22) := by
  refine callsIn_of_wp Try.func44 rfl h5 ?_ hro
  simp only [Try.ntmps44, List.size_toArray, List.length_cons, List.length_nil, Nat.reduceAdd, Nat.reduceSub, Array.replicate_succ, Array.replicate_zero, List.push_toArray, List.append_toArray, List.nil_append, List.cons_append]
  gi_wp2
  go_ret
  exact ⟨rfl, rfl⟩
theorem tb_ar (k n : Nat) (h : k < n) (hn : n ≤ 100000) : (k : Int) < (n : Int) ∧ (0 : Int) ≤ (k : Int) ∧ wrap64 ((k : Int) + 1) = (k : Int) + 1 ∧ IntKind.i64.wrap ((k : Int) + 1) = (k : Int) + 1 ∧ n - (RowKit.intOf (.int .i64 ((k : Int) + 1))).toNat < n - (RowKit.intOf (.int .i64 (k : Int))).toNat :=
  ⟨by omega, by omega, by unfold wrap64; omega, by rw [IntKind.wrap_i64]; omega, by simp only [RowKit.intOf]; omega⟩
set_option maxRecDepth 100000 in
set_option maxHeartbeats 2000000 in
theorem tables1_in (m : Nat) (hm : 1 ≤ m) (l B : Nat) (A : Option Addr) (L C : Nat) (ls : List LR) (hL : ls.length = L) (hf : L ≤ 100000) (hs : ∀ x ∈ ls, x.rs.length ≤ 100000) (J : Nat → World → Prop) (Jx : World → Prop) (hM : ∀ k W, J k W → TbM B A L C ls W) (hB : ∀ k W W', J k W → Below W.heap.size W W' → J k W')
    (hY : ∀ (k i : Nat) (x : RV) (W : World), (flt 0 ls)[k]? = some (i, x) → J k W → YieldAt Fence.wide (m - 1) Try.prog l #[.int .i64 (i : Int), .agg x.cs.toArray] W fun e W' => (e = .returned (.bool true) ∧ J (k + 1) W') ∨ (e = .returned (.bool false) ∧ Jx W'))
    (W : World) (h0 : J 0 W) :
    CallsIn Fence.wide m Try.prog 61 #[.func (.yield l) #[] #[], .pointer (some ⟨B, 0, none⟩)] W fun e W' => (∃ v, e = .returned v) ∧ (J (flt 0 ls).length W' ∨ Jx W') := by
  have c1 := (hM 0 W h0).bx
  have H0 := hidIt h0
  have HB := hidIt hB
  have HM := hidIt hM
  have HY := hidIt hY
  have HN := hidIt (And.intro hL (And.intro hf hs))
  clear h0 hB hM hY hL hf hs
  refine callsIn_of_wp Try.func61 rfl trivial ?_ rfl
  simp only [Try.ntmps61, List.size_toArray, List.length_cons, List.length_nil, Nat.reduceAdd, Nat.reduceSub, Array.replicate_succ, Array.replicate_zero, List.push_toArray, List.append_toArray, List.nil_append, List.cons_append]
  gi_wp2
  gi_loopw [9] (fun i wr => ∃ k : Nat, k ≤ L ∧ i = .int .i64 (k : Int) ∧ J (offL ls k) wr) (fun i _ => L - (RowKit.intOf i).toNat)
  case atStart => exact ⟨0, Nat.zero_le _, rfl, by rw [offL_zero]; exact H0.out⟩
  case round =>
    clear H0 c1
    obtain ⟨i, hi, rfl, hJ⟩ := hrel
    by_cases hlt : i < L
    · obtain ⟨x, hx⟩ : ∃ x, ls[i]? = some x := ⟨_, List.getElem?_eq_getElem (by have := HN.out.1; omega)⟩
      have M := HM.out _ wr hJ
      obtain ⟨b, o, ha, hc, _⟩ := M.lv.at i x hx
      obtain ⟨⟨_, hrow⟩, _⟩ := M.lv.1 x (List.mem_of_getElem? hx)
      have HX := hidIt hx
      have XS := hidIt (HN.out.2.2 x (List.mem_of_getElem? hx))
      have LT := hidIt hlt
      have HJ := hidIt hJ
      obtain ⟨i0, i1, i2, i3, i4⟩ := tb_ar i L hlt HN.out.2.1
      have OF := hidIt (offL_succ ls i x hx)
      subst ha
      unfold LR.v at hc
      obtain ⟨nn, hnn⟩ : ∃ nn, nn = x.rs.length := ⟨_, rfl⟩
      rw [← hnn] at hc OF XS
      have NN := hidIt hnn
      clear hlt hi hx M hJ hrow hnn
      gi_wp2
      clear hc
      gi_loopw [16] (fun i' wr' => ∃ k : Nat, k ≤ nn ∧ i' = .int .i64 (k : Int) ∧ J (offL ls i + k) wr') (fun i' _ => nn - (RowKit.intOf i').toNat)
      case atStart => exact ⟨0, Nat.zero_le _, rfl, HJ.out⟩
      case round =>
        clear HJ
        obtain ⟨k, hk, rfl, hJ⟩ := hrel
        by_cases hlt : k < nn
        · obtain ⟨y, hy⟩ : ∃ y, x.rs[k]? = some y := ⟨_, List.getElem?_eq_getElem (by have := NN.out; omega)⟩
          have M := HM.out _ _ hJ
          have XO := M.lv.1 x (List.mem_of_getElem? HX.out)
          obtain ⟨b2, o2, ha2, hr2, _⟩ := XO.1.at k y hy
          have OK := hidIt (XO.1.1 y (List.mem_of_getElem? hy))
          have FA := hidIt (flt_at 0 ls i k x y HX.out hy)
          obtain ⟨j0, j1, j2, j3, j4⟩ := tb_ar k nn hlt XS.out
          have LK := hidIt hlt
          have HJ := hidIt hJ
          obtain ⟨k0, k1, k2, k3, k4⟩ := five_cells hr2
          rw [ha2]
          clear hlt hk hy M XO hJ hr2
          gi_wp2_with (first
            | (refine fen_alloc rfl 45 rfl _ _ rfl run_zero ?_; intro W2 R2 B2 z2; have P2 := hidIt R2; have E2 := hidIt (And.intro B2 z2); clear R2 B2 z2 k0 k1 k2 k3 k4)
            | (refine fen_store rfl 45 (.tmp 6) (.tmp 19) rfl _ 0 _ y.cs rfl rfl P2.out rfl run_size OK.out.one ?_; intro W3 R3 B3; have E3 := hidIt (E2.out.1.trans (B3.below (Nat.le_refl _) (by have := E2.out.2; omega))); have e0 := (R3.cel 0 _ rfl).1; have e1 := (R3.cel 1 _ rfl).1; have e2 := (R3.cel 2 _ rfl).1; have e3 := (R3.cel 3 _ rfl).1; have e4 := (R3.cel 4 _ rfl).1; clear R3 B3))
          obtain ⟨fn, tmps, assign, body, hy, hR⟩ := HY.out _ _ y W3 FA.out (HB.out _ wr W3 HJ.out E3.out)
          rw [Nat.zero_add] at hy
          have hy' : (Instr.yield l #[.int .i64 (i : Int), .agg #[.int .i64 y.r.ad, .int .i64 y.r.st, .int .i64 y.r.ct, y.f, y.l]]).run Try.prog W3 = .ok (.round l fn tmps assign body) W3 := hy
          clear hy
          rw [hy']
          gi_wp2
          refine hR.mono ?_
          rintro e W5 (⟨rfl, hJ5⟩ | ⟨rfl, hJx5⟩)
          · gi_wp2
            go_roundw
            case rel => exact ⟨k + 1, LK.out, rfl, hJ5⟩
            case measure => exact j4
          · gi_wp2
            refine bodyPost_ret (results_none rfl _ _ _) rfl ?_
            exact ⟨⟨_, rfl⟩, .inr hJx5⟩
        · obtain rfl : k = nn := by omega
          have j0 : ((k : Int) < (k : Int)) = False := eq_false (by omega)
          have HJ := hidIt hJ
          clear hJ hlt hk
          gi_wp2
          go_roundw
          case rel => exact ⟨i + 1, LT.out, rfl, by rw [OF.out]; exact HJ.out⟩
          case measure => exact i4
    · obtain rfl : i = L := by omega
      have i0 : ((i : Int) < (i : Int)) = False := eq_false (by omega)
      have HJ := hidIt hJ
      clear hJ hlt hi
      gi_wp2
      go_end0
      exact ⟨⟨_, rfl⟩, .inl (by have := HJ.out; rw [← HN.out.1, offL_all 0] at this; exact this)⟩
/-- The k-th table's level, and it. -/
def tx1 (fl : List (Nat × RV)) (k : Nat) : Value := match fl[k]? with
  | some (i, _) => .int .i64 (i : Int)
  | none => undef
def tx2 (fl : List (Nat × RV)) (k : Nat) : Value := match fl[k]? with
  | some (_, x) => .agg x.cs.toArray
  | none => undef
theorem tx1_at {fl : List (Nat × RV)} {k i : Nat} {x : RV} (h : fl[k]? = some (i, x)) : tx1 fl k = .int .i64 (i : Int) := by unfold tx1; rw [h]
theorem tx2_at {fl : List (Nat × RV)} {k i : Nat} {x : RV} (h : fl[k]? = some (i, x)) : tx2 fl k = .agg x.cs.toArray := by unfold tx2; rw [h]
/-- A range over the tables of levels, outside of every other such loop. -/
theorem range_tbl {m : Nat} {gop : Operand} (p1 p2 : Tmp) {assign body : Code} {Q : Exit → Act → World → Prop} {a : Act} {w : World} (hm : 2 ≤ m) (B : Nat) (A : Option Addr) (L C : Nat) (ls : List LR) (hL : ls.length = L) (hf : L ≤ 100000) (hs : ∀ x ∈ ls, x.rs.length ≤ 100000)
    (hg : a.eval gop = .func (.func 61) #[] #[.pointer (some ⟨B, 0, none⟩)]) (I : Nat → World → Prop) (Ix : Code → World → Prop) (hI : OwnFrom w.heap.size I) (hIx : OwnFrom w.heap.size Ix) (hIB : ∀ k W W', I k W → Below W.heap.size W W' → I k W') (hM : ∀ k W, I k W → TbM B A L C ls W) (h0 : I 0 w)
    (hround : ∀ (l k i : Nat) (x : RV) (W : World), (flt 0 ls)[k]? = some (i, x) → I k W → w.heap.size ≤ l → l < W.heap.size → (∃ r, W.heap[l]? = some (.loop r)) → assign.wpIn (Fence.wide.inRound l) (m - 1 - 1) Try.prog
      (Exit.then (fun a₁ W₁ => KeepsFrom w.heap.size W W₁ ∧ ∀ W₂, But l W₁ W₂ → W₂.heap.size = W₁.heap.size → body.wpIn (Fence.wide.inRound l) (m - 1 - 1) Try.prog (rndP w.heap.size I Ix k W₂) a₁ W₂) (fun _ _ _ => False))
      { tmps := (a.tmps.setIfInBounds p1 (.int .i64 (i : Int))).setIfInBounds p2 (.agg x.cs.toArray), defers := [] } W)
    (hdone : ∀ (D : Nat) (W : World), w.heap.size ≤ D → I (flt 0 ls).length W → W.heap[D]? = some (.deferred (some [])) → Q .normal { a with defers := { target := .collected D, args := #[] } :: a.defers } W)
    (hstop : ∀ (D : Nat) (c : Code) (W : World), w.heap.size ≤ D → Ix c W → W.heap[D]? = some (.deferred (some [])) → c.wpIn Fence.wide m Try.prog Q { a with defers := { target := .collected D, args := #[] } :: a.defers } W) :
    (Code.rangeFunc gop #[p1, p2] assign body).wpIn Fence.wide m Try.prog Q a w :=
  range_own2 p1 p2 hm 61 #[.pointer (some ⟨B, 0, none⟩)] (flt 0 ls).length (tx1 (flt 0 ls)) (tx2 (flt 0 ls)) (fun _ _ => by simp [go_sem]) hg I Ix hI hIx hIB h0
    (fun l J Jx hJ hB hY V h0 => tables1_in (m - 1) (by omega) l B A L C ls hL hf hs J Jx (fun k W h => hM k W (hJ k W h)) hB (fun k i x W hx h => by
      have := hY k W (List.getElem?_eq_some_iff.1 hx).1 h
      rw [tx1_at hx, tx2_at hx] at this
      exact this) V h0)
    (fun l k W hk hi h1 h2 h3 => by
      obtain ⟨⟨i, x⟩, hx⟩ : ∃ q, (flt 0 ls)[k]? = some q := ⟨_, List.getElem?_eq_getElem hk⟩
      rw [tx1_at hx, tx2_at hx]
      exact hround l k i x W hx hi h1 h2 h3) hdone hstop
end Go.Proofs.Ytelcijfcgflagaa
