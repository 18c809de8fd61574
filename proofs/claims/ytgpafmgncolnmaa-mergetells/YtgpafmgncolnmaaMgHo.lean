/-
  Walks, not a claim by itself: the heap of lists' fronts. By the verifier.
-/
import Derived.Test.YtgpafmgncolnmaaMgTk
import Derived.Test.YtgpafmgncolnmaaMgA
namespace Go.Proofs.Ytgpafmgncolnmaa
open Go.RowKit
attribute [-go_sem] Builtin.append_
theorem info_place : (Try.prog.info? 72).map (fun i => (i.zero, i.size, i.bytes)) = some (some (.agg #[.slice none 0 0, .int .i64 0]), 2, 32) := by kernel_rfl
theorem under_places : Try.prog.underlying 73 = some (.slice 72) := by kernel_rfl
/-- A slice of places that was made behind base. -/
def OwnPl (w : World) (base : Nat) (V : Nat → LV) (v : Value) (hs : List Nat) : Prop := w.ownsRow base 72 2 v hs.length (plc V hs)
theorem OwnPl.nil (w : World) (base : Nat) (V : Nat → LV) : OwnPl w base V (.slice none 0 0) [] := World.ownsRow_nil w base _ 2
theorem OwnPl.off {w u : World} {base : Nat} {V : Nat → LV} {v : Value} {hs : List Nat} {N : List Nat} (h : OwnPl w base V v hs) (hO : Off N w u) (hn : ∀ b ∈ N, b < base) : OwnPl u base V v hs := by
  refine ⟨h.1, ?_⟩
  rcases h.2 with h0 | ⟨g, cap, cur, rfl, hb, hg, rest⟩
  · exact .inl h0
  · exact .inr ⟨g, cap, cur, rfl, hb, (hO.block g (Array.getElem?_eq_some_iff.1 hg).1 (fun q => by have := hn g q; omega)).trans hg, rest⟩
theorem OwnPl.below {w u : World} {base : Nat} {V : Nat → LV} {v : Value} {hs : List Nat} (h : OwnPl w base V v hs) (hB : Below w.heap.size w u) : OwnPl u base V v hs := h.off (Off.of (bs := []) hB) (fun _ h => by cases h)
theorem OwnPl.form {w : World} {base : Nat} {V : Nat → LV} {v : Value} {hs : List Nat} (h : OwnPl w base V v hs) : (v = .slice none 0 0 ∧ hs = []) ∨ ∃ g cap, v = .slice (some ⟨g, 0, none⟩) hs.length cap ∧ base ≤ g ∧ hs.length ≤ cap ∧ Rec19 w g 0 (plc V hs) := by
  rcases h.2 with ⟨rfl, h0⟩ | ⟨g, cap, cur, rfl, hbg, hg, hnc, hcm, hsz, htake⟩
  · exact .inl ⟨rfl, List.eq_nil_of_length_eq_zero h0⟩
  · refine .inr ⟨g, cap, rfl, hbg, hnc, fun j u hj => ?_, fun j hj => ?_, (Array.getElem?_eq_some_iff.1 hg).1⟩
    · have := World.ownsRow.cellAt h j (by rw [← plc_len]; exact (List.getElem?_eq_some_iff.1 hj).1)
      rw [Nat.zero_add, this, hj]
    · have := World.ownsRow.cellAt h j (by rw [← plc_len]; exact hj)
      rw [Nat.zero_add]
      exact ⟨by rw [this, List.getElem?_eq_getElem hj]; rfl, World.ownsRow.frozenAt h j⟩
theorem OwnPl.sl {w : World} {base : Nat} {V : Nat → LV} {v : Value} {hs : List Nat} (h : OwnPl w base V v hs) : ∃ a cap, v = .slice a hs.length cap := by
  rcases h.form with ⟨rfl, rfl⟩ | ⟨g, cap, rfl, _⟩
  · exact ⟨none, 0, rfl⟩
  · exact ⟨_, cap, rfl⟩
theorem app_place (ty : TypeId) (W : World) (base : Nat) (V : Nat → LV) (v : Value) (hs : List Nat) (t : Nat) (ad : Addr) (C : Nat) (ho : OwnPl W base V v hs) (hA : ∀ j u, (plc V [t])[j]? = some u → W.cell? (ad.add j) = some u) (hm : hs.length ≤ 32) (hbase : base ≤ W.heap.size) :
    ∃ v' W', (Builtin.append_ #[73, 73] ty #[v, .slice (some ad) 1 C]).run Try.prog W = .ok v' W' ∧ OwnPl W' base V v' (hs ++ [t]) ∧ Below base W W' := by
  obtain ⟨i0, hi, hz0, hz1, hz2⟩ := info_parts info_place
  obtain ⟨v', W', h1, h2, h3, _⟩ := run_append_own (P := Try.prog) W base 73 ty 72 i0 (.agg #[.slice none 0 0, .int .i64 0]) 2 32 under_places hi hz0 hz1 hz2 rfl (by decide) v hs.length (plc V hs) ho ad 1 C (plc V [t]) (by rw [plc_len]; rfl) hA (plc_one _ _) (by unfold maxLen; omega) (by omega) hbase
  refine ⟨v', W', h1, ?_, (Below.refl _ _).grown h3 hbase (fun k hk => (World.ownsRow.lt ho k hk).1)⟩
  unfold OwnPl
  rw [plc_app, List.length_append]
  exact h2
/-- The lists by number. -/
def V0 (ls : List LV) (t : Nat) : LV := ls.getD t ⟨none, 0, []⟩
theorem V0_at {ls : List LV} {t : Nat} {x : LV} (h : ls[t]? = some x) : V0 ls t = x := by unfold V0; rw [List.getD_eq_getElem?_getD, h]; rfl
/-- Those of the first k that have pairs. -/
def fulls (ls : List LV) (k : Nat) : List Nat := (List.range k).filter fun t => !(V0 ls t).ps.isEmpty
theorem fulls_succ (ls : List LV) (k : Nat) : fulls ls (k + 1) = if (V0 ls k).ps = [] then fulls ls k else fulls ls k ++ [k] := by
  unfold fulls
  rw [List.range_succ, List.filter_append]
  cases e : (V0 ls k).ps with
  | nil => simp [e]
  | cons a r => simp [e]
theorem fulls_len (ls : List LV) (k : Nat) : (fulls ls k).length ≤ k := by
  unfold fulls
  have := List.length_filter_le (fun t => !(V0 ls t).ps.isEmpty) (List.range k)
  simpa using this
theorem fulls_nodup (ls : List LV) (k : Nat) : (fulls ls k).Nodup := List.Pairwise.filter _ List.nodup_range
theorem fulls_mem (ls : List LV) (t : Nat) : t ∈ fulls ls ls.length ↔ ∃ x, ls[t]? = some x ∧ x.ps ≠ [] := by
  unfold fulls
  simp only [List.mem_filter, List.mem_range]
  constructor
  · rintro ⟨h1, h2⟩
    have e := V0_at (List.getElem?_eq_getElem h1)
    exact ⟨_, List.getElem?_eq_getElem h1, fun q => by rw [e, q] at h2; cases h2⟩
  · rintro ⟨x, h1, h2⟩
    refine ⟨(List.getElem?_eq_some_iff.1 h1).1, ?_⟩
    rw [V0_at h1]
    cases e : x.ps with
    | nil => exact absurd e h2
    | cons a r => rfl
/-- What holds behind k lists. -/
structure HoI (W : World) (ls : List LV) (k : Nat) (wr : World) : Prop where
  old : Below W.heap.size W wr
  sz : W.heap.size + 1 ≤ wr.heap.size
  ex : ∃ v, Rec19 wr W.heap.size 0 [v] ∧ OwnPl wr (W.heap.size + 1) (V0 ls) v (fulls ls k)
/-- What heapOf answers. -/
def HoPost (W : World) (ls : List LV) (e : Ending) (w' : World) : Prop := ∃ hb pb hs, e = .returned (.pointer (some ⟨hb, 0, none⟩)) ∧ HS W w' hb pb (V0 ls) hs ∧ HpF (kys (V0 ls)) hs 0 ∧ hs.Nodup ∧ (∀ t, t ∈ hs ↔ ∃ x, ls[t]? = some x ∧ x.ps ≠ [])
/-- What holds while places sink. -/
def hoR (W : World) (ls : List LV) (hb pb : Nat) (i : Value) (wr : World) : Prop := ∃ (k : Nat) (hs : List Nat), i = .int .i64 ((k : Int) - 1) ∧ k ≤ (fulls ls ls.length).length ∧ hs.Perm (fulls ls ls.length) ∧ HpF (kys (V0 ls)) hs k ∧ HS W wr hb pb (V0 ls) hs
theorem ho_ar (n d : Nat) (hn : n ≤ 32) (hd : d = n / 2) : IntKind.i64.wrap ((n : Int) / 2) = (d : Int) ∧ wrap64 ((n : Int) / 2) = (d : Int) ∧ IntKind.i64.wrap ((d : Int) - 1) = (d : Int) - 1 ∧ wrap64 ((d : Int) - 1) = (d : Int) - 1 :=
  ⟨by rw [IntKind.wrap_i64]; omega, by unfold wrap64; omega, by rw [IntKind.wrap_i64]; omega, by unfold wrap64; omega⟩
theorem ho_ar2 (j : Nat) (h : j ≤ 100) : IntKind.i64.wrap ((j : Int) - 1) = (j : Int) - 1 ∧ wrap64 ((j : Int) - 1) = (j : Int) - 1 := ⟨by rw [IntKind.wrap_i64]; omega, by unfold wrap64; omega⟩
theorem ho_me (j : Nat) : (RowKit.intOf (.int .i64 ((j : Int) - 1)) + 1).toNat < (RowKit.intOf (.int .i64 (j : Int)) + 1).toNat := by
  simp only [RowKit.intOf]
  omega
set_option maxRecDepth 100000 in
set_option maxHeartbeats 2000000 in
theorem heapOf_any {W : World} {A : Option Addr} {ls : List LV} (L C : Nat) (hL : ls.length = L) (h : Lsts W A ls) (hf : L ≤ 32) : Calls Try.prog 45 #[.slice A L C] W (HoPost W ls) := by
  have HL := hidIt h
  have HN := hidIt (And.intro hL hf)
  clear h hL hf
  go_enter Try.func45, Try.ntmps45
  go_wp2_with (refine wpList_box_rec rfl 75 (.tmp 7) rfl [.slice none 0 0] rfl W.heap.size rfl ?_; intro W1 R1 B1 z1; have I1 : Hid (HoI W ls 0 W1) := hidIt ⟨B1, Nat.le_of_eq z1.symm, _, R1, OwnPl.nil _ _ _⟩; clear R1 B1 z1)
  go_loopw [11] (fun i wr => ∃ k : Nat, k ≤ L ∧ i = .int .i64 (k : Int) ∧ HoI W ls k wr) (fun i _ => L - (RowKit.intOf i).toNat)
  case atStart => exact ⟨0, Nat.zero_le _, rfl, I1.out⟩
  case round =>
    clear I1
    obtain ⟨k, hk, rfl, hI⟩ := hrel
    have II := hidIt hI
    by_cases hlt : k < L
    · obtain ⟨x, hx⟩ : ∃ x, ls[k]? = some x := ⟨_, List.getElem?_eq_getElem (by have := HN.out.1; omega)⟩
      obtain ⟨b, o, ha, hc, hb⟩ := (HL.out.below hI.old).at k x hx
      subst ha
      have VX : Hid (V0 ls k = x) := hidIt (V0_at hx)
      have LT := hidIt hlt
      have AR := hidIt (k_ar k L hlt (by have := HN.out.2; omega))
      have MK := hidIt (meas_k L k _ rfl hlt)
      obtain ⟨xa, xc, xps⟩ := x
      have SX : Hid ((V0 ls k).v = .slice xa xps.length xc) := hidIt (by rw [VX.out]; rfl)
      have hc' : wr.cell? ⟨b, o + k, none⟩ = some (.slice xa xps.length xc) := hc
      have KL : Hid ((fulls ls k).length ≤ 32) := hidIt (by have := fulls_len ls k; have := HN.out.2; omega)
      clear hc hb hx hlt hk hI
      obtain ⟨i0, i1, i2, i3⟩ := AR.out
      cases xps with
      | nil =>
        have FS : Hid (fulls ls (k + 1) = fulls ls k) := hidIt (by rw [fulls_succ, VX.out, if_pos rfl])
        as_aux_lemma =>
          go_wp2_with fail
          go_roundw
          case rel => exact ⟨k + 1, LT.out, rfl, II.out.old, II.out.sz, by rw [FS.out]; exact II.out.ex⟩
          case measure => exact MK.out
      | cons y r =>
        have FS : Hid (fulls ls (k + 1) = fulls ls k ++ [k]) := hidIt (by rw [fulls_succ, VX.out, if_neg (by simp)])
        obtain ⟨v, R, O⟩ := II.out.ex
        have e0 : (0 : Int) < (((y :: r).length : Nat) : Int) := by simp
        obtain ⟨m, hm⟩ : ∃ m, m = (y :: r).length := ⟨_, rfl⟩
        rw [← hm] at e0 hc' SX
        have c0 := (R.cel 0 _ rfl).1
        have RR := hidIt R
        have OO := hidIt O
        clear R O hm
        go_wp2_with fail
        have A2 : Below wr.heap.size wr (wr.alloc (.cells #[.slice xa m xc, .int .i64 (k : Int)] 72)) := (Below.refl _ _).alloc (Nat.le_refl _) _
        have R2 := Rec19.new wr 72 (plV (V0 ls k) k)
        unfold plV at R2
        rw [SX.out] at R2
        change Rec19 (wr.alloc (.cells #[.slice xa m xc, .int .i64 (k : Int)] 72)) _ _ _ at R2
        obtain ⟨W2, hW2⟩ : ∃ W2, W2 = wr.alloc (.cells #[.slice xa m xc, .int .i64 (k : Int)] 72) := ⟨_, rfl⟩
        rw [← hW2] at A2 R2 ⊢
        obtain ⟨v', W3, hr, O3, B3⟩ := app_place 73 W2 (W.heap.size + 1) (V0 ls) v (fulls ls k) k ⟨wr.heap.size, 0, none⟩ 1 (OO.out.below A2) (fun j u hj => by rw [Addr.add_mid]; refine R2.1 j u ?_; rw [← SX.out]; exact hj) KL.out (Nat.le_trans II.out.sz A2.size)
        obtain ⟨va, vn, vc, rfl⟩ : ∃ a n c, v' = .slice a n c := by obtain ⟨a, c, e⟩ := O3.sl; exact ⟨a, _, c, e⟩
        have R3 := hidIt ((RR.out.below A2).lowU B3 (Nat.lt_succ_self _))
        have OO3 := hidIt O3
        have E3 := hidIt ((II.out.old.trans (A2.mono II.out.old.size)).trans (B3.mono (Nat.le_succ _)))
        have S3 := hidIt (Nat.le_trans (Nat.le_trans II.out.sz A2.size) B3.size)
        clear A2 R2 O3 B3 hW2 c0 RR
        rw [hr]
        simp only [Result.andThen]
        rw [Oper.upon_value]
        as_aux_lemma =>
          go_wp2_with (refine wpList_put_rec rfl 73 (.tmp 30) (.tmp 28) rfl W.heap.size 0 [v] [.slice va vn vc] [.slice va vn vc] _ rfl rfl rfl R3.out (by simp) rfl (by kernel_rfl) (by simp [Value.oneCell']) ?_; intro W4 R4 B4 z4; have I4 : Hid (HoI W ls (k + 1) W4) := hidIt ⟨E3.out.trans (B4.below (Nat.le_refl _) E3.out.size), Nat.le_trans S3.out (Nat.le_of_eq z4.symm), _, R4, by rw [FS.out]; exact OO3.out.off (Off.but (bs := [W.heap.size]) B4 (by simp)) (by simp)⟩; clear R4 B4 z4)
          go_roundw
          case rel => exact ⟨k + 1, LT.out, rfl, I4.out⟩
          case measure => exact MK.out
    · obtain rfl : k = L := by omega
      have i0 : ((k : Int) < (k : Int)) = False := eq_false (by omega)
      obtain ⟨v, R, O⟩ := hI.ex
      have FL := hidIt (Nat.le_trans (fulls_len ls k) HN.out.2)
      have LK : Hid (ls.length = k) := hidIt HN.out.1
      obtain ⟨n, hn⟩ : ∃ n, n = (fulls ls k).length := ⟨_, rfl⟩
      obtain ⟨pb, S⟩ : ∃ pb, HS W wr W.heap.size pb (V0 ls) (fulls ls k) ∧ ∃ a cap, v = .slice a n cap := by
        have oks : ∀ t ∈ fulls ls k, LOk W (V0 ls t) ∧ ∃ x r, (V0 ls t).ps = x :: r := fun t ht => by
          rw [← LK.out] at ht
          obtain ⟨x, h1, h2⟩ := (fulls_mem ls t).1 ht
          rw [V0_at h1]
          obtain ⟨y, r, e⟩ := List.exists_cons_of_ne_nil h2
          exact ⟨HL.out.1 x (List.mem_of_getElem? h1), y, r, e⟩
        rcases O.form with ⟨rfl, e⟩ | ⟨g, cap, rfl, hg, hc, hR⟩
        · refine ⟨W.heap.size + 1, ⟨hI.old, ⟨by omega, ⟨none, 0, by rw [e]; exact R, by rw [e]; exact Nat.le_refl _, by rw [e]; intro q; cases q⟩, by rw [e]; intro q; cases q⟩, Nat.le_refl _, by omega, oks, FL.out⟩, none, 0, by rw [hn, e]; rfl⟩
        · refine ⟨g, ⟨hI.old, ⟨by omega, ⟨_, cap, R, hc, fun _ => rfl⟩, fun _ => hR⟩, Nat.le_refl _, by omega, oks, FL.out⟩, _, cap, by rw [hn]⟩
      obtain ⟨HSS, va, vc, rfl⟩ := S
      have SS := hidIt HSS
      have c0 := (R.cel 0 _ rfl).1
      have n32 : n ≤ 32 := by rw [hn]; exact FL.out
      have NL := hidIt hn
      obtain ⟨d, hd⟩ : ∃ d, d = n / 2 := ⟨_, rfl⟩
      have HR : Hid (hoR W ls W.heap.size pb (.int .i64 ((d : Int) - 1)) wr) := hidIt ⟨d, fulls ls k, rfl, by rw [LK.out, ← hn]; omega, by rw [LK.out], fun i c s t hi hc e1 e2 => by have := (List.getElem?_eq_some_iff.1 e2).1; omega, HSS⟩
      have MZ := hidIt (ho_ar n d n32 hd)
      clear hlt hk hI R O HSS hn n32 hd
      obtain ⟨i2, i3, i4, i5⟩ := MZ.out
      go_wp2_with fail
      clear i2 i3 i4 i5 c0
      go_loopw [6] (fun i w5 => hoR W ls W.heap.size pb i w5) (fun i _ => (RowKit.intOf i + 1).toNat)
      case atStart => exact HR.out
      case round =>
        clear HR SS
        obtain ⟨j, hs, rfl, hj, hpm, hF, hS⟩ := hrel
        rename World => Wj
        have SJ := hidIt (And.intro hpm (And.intro hF hS))
        have JN := hidIt hj
        clear hpm hF hS hj
        cases j with
        | zero =>
          have FIN : Hid (HoPost W ls (.returned (.pointer (some ⟨W.heap.size, 0, none⟩))) Wj) := hidIt ⟨_, pb, hs, rfl, SJ.out.2.2, SJ.out.2.1, SJ.out.1.nodup_iff.2 (fulls_nodup _ _), fun t => by rw [SJ.out.1.mem_iff]; exact fulls_mem ls t⟩
          as_aux_lemma =>
            go_wp2_with fail
            go_ret
            exact FIN.out
        | succ j =>
          have e1 : ((j + 1 : Nat) : Int) - 1 = (j : Int) := by omega
          have e2 : (0 : Int) ≤ (j : Int) := by omega
          rw [e1]
          clear e1
          have KA := hidIt (sink_any (k := j) SJ.out.2.2 (by have := SJ.out.1.length_eq; have := JN.out; omega) SJ.out.2.1)
          have w1 : IntKind.i64.wrap ((j : Int) - 1) = (j : Int) - 1 ∧ wrap64 ((j : Int) - 1) = (j : Int) - 1 := ho_ar2 j (by have := JN.out; have := fulls_len ls ls.length; have := HN.out; omega)
          have ME := hidIt (ho_me j)
          obtain ⟨w1, w2⟩ := w1
          as_aux_lemma =>
            go_wp2_with (go_at_call 53; refine KA.out.mono ?_; rintro e W5 ⟨⟨v, rfl⟩, hs', hpm, hF8, hS8, hO8⟩; have S8 : Hid (hoR W ls W.heap.size pb (.int .i64 ((j : Int) - 1)) W5) := hidIt ⟨j, hs', rfl, by have := JN.out; omega, hpm.trans SJ.out.1, hF8, hS8⟩; clear hpm hF8 hS8 hO8)
            go_roundw
            case rel => exact S8.out
            case measure => exact ME.out
end Go.Proofs.Ytgpafmgncolnmaa
