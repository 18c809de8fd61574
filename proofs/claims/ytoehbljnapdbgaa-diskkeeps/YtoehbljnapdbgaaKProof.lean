/-
  Proved: DiskKeeps: for every number of sectors, all steps, any fuse, every list of what is kept and any tear, in whatever memory, on every schedule, the statement's function returns true: what was flushed is there behind a crash, and each sector that was written since has its new bytes, or its old ones, or, of one at most, half of each. No condition.
-/
import Derived.Test.YtoehbljnapdbgaaKKeep1
import Derived.Test.YtoehbljnapdbgaaKKeep2
import Derived.Test.YtoehbljnapdbgaaEFrame
namespace Go.Proofs.Ytoehbljnapdbgaa
open Go.ChangeShapes Go.WideShapes Go.ChangeAt Go.RowKit Go.Joins

section
variable {H : Type} {enc : TypeId × Value → H}
theorem byte_of_wf {x : Int} (h : (Lit.int .u8 x).wf = true) : 0 ≤ x ∧ x < 256 := by
  simp [Lit.wf, IntKind.min, IntKind.max, IntKind.signed, IntKind.bits] at h
  exact ⟨by omega, by omega⟩
theorem i64_of_wf {x : Int} (h : (Lit.int .i64 x).wf = true) : x < 9223372036854775808 := by
  simp [Lit.wf, IntKind.min, IntKind.max, IntKind.signed, IntKind.bits] at h
  omega
theorem struct3 {t : TypeId} {f0 f1 f2 : Field} {w : World} {fuel : Nat} {cs : List Value} {x : DataW H × List MemPlace} (ht : Try.prog.underlying t = some (.struct #[f0, f1, f2])) (h : DataW.trod enc Try.prog w 0 (fun _ => true) true fuel t cs = some x) :
    ∃ y0 y1 y2 n, DataW.trod enc Try.prog w 0 (fun _ => true) true n f0.type ((cs.drop f0.offset).take (Try.prog.cellsOf f0.type)) = some y0 ∧ DataW.trod enc Try.prog w 0 (fun _ => true) true n f1.type ((cs.drop f1.offset).take (Try.prog.cellsOf f1.type)) = some y1 ∧ DataW.trod enc Try.prog w 0 (fun _ => true) true n f2.type ((cs.drop f2.offset).take (Try.prog.cellsOf f2.type)) = some y2 := by
  obtain ⟨xs, n, _, rfl, hl, hlen, hf⟩ := DataW.trod_struct ht h
  match xs, hlen with
  | [y0, y1, y2], _ => exact ⟨y0, y1, y2, n, by simpa using hf 0 f0 rfl, by simpa using hf 1 f1 rfl, by simpa using hf 2 f2 rfl⟩
set_option maxRecDepth 100000 in
/-- Steps that came in, opened. -/
theorem open_steps {W : World} {a : Option Addr} {len cap : Nat} {d : DataW H} {p : List MemPlace} (h : DataW.Trod enc Try.prog W 0 (fun _ => true) true 59 (.slice a len cap) d p) : ∃ (A V : Nat → Int) (F : Nat → Bool), SArg W a len A V F := by
  obtain ⟨fuel, hf⟩ := h
  rcases DataW.trod_slice Try.underlying59 hf with ⟨hcs, _⟩ | ⟨x, l, c, elems, rest, m, _, hcs, _, _, hl, _, hlen, hel, _, _⟩
  · simp [Value.cells] at hcs
    obtain ⟨rfl, rfl, rfl⟩ := hcs
    exact ⟨fun _ => 0, fun _ => 0, fun _ => false, fun i hi => by omega⟩
  · simp [Value.cells] at hcs
    obtain ⟨rfl, rfl, rfl⟩ := hcs
    have hc : Try.prog.cellsOf 62 = 3 := by kernel_rfl
    have h3 : Try.prog.cellsOf 3 = 1 := by kernel_rfl
    have h8 : Try.prog.cellsOf 5 = 1 := by kernel_rfl
    have hb : Try.prog.cellsOf 4 = 1 := by kernel_rfl
    have key : ∀ i, i < len → ∃ (X Y : Int) (Z : Bool), W.cell? (x.add (i * 3)) = some (.int .i64 X) ∧ W.cell? ((x.add (i * 3)).add 1) = some (.int .u8 Y) ∧ W.cell? ((x.add (i * 3)).add 2) = some (.bool Z) ∧ 0 ≤ Y ∧ Y < 256 := by
      intro i hi
      have e := hel i hi
      rw [hc, List.getElem?_eq_getElem (by omega)] at e
      obtain ⟨cs, hcs, htr⟩ := Option.bind_eq_some_iff.1 e
      obtain ⟨_, hlen2, hcell⟩ := World.cells?_some hcs
      obtain ⟨y0, y1, y2, k, t0, t1, t2⟩ := struct3 Try.underlying62 htr
      match cs, hlen2 with
      | [c0, c1, c2], _ =>
        obtain ⟨X, eX, _, _⟩ := DataW.trod_int Try.underlying3 t0
        obtain ⟨Y, eY, _, wY⟩ := DataW.trod_int Try.underlying5 t1
        obtain ⟨Z, eZ, _⟩ := DataW.trod_bool Try.underlying4 t2
        simp [h3] at eX
        simp [h8] at eY
        simp [hb] at eZ
        subst eX eY eZ
        refine ⟨X, Y, Z, ?_, ?_, ?_, byte_of_wf wY⟩
        · have := hcell 0 (by omega)
          rw [show (x.add (i * 3)).add 0 = x.add (i * 3) from by simp [Addr.add]] at this
          simpa using this
        · simpa using hcell 1 (by omega)
        · simpa using hcell 2 (by omega)
    by_cases h0 : len = 0
    · exact ⟨fun _ => 0, fun _ => 0, fun _ => false, fun i hi => by omega⟩
    obtain ⟨b, off, spot⟩ := x
    obtain ⟨X0, Y0, Z0, c0, _⟩ := key 0 (by omega)
    have hspot : spot = none := by simpa [Addr.add] using World.cell?_spot c0
    subst hspot
    have key' : ∀ i, i < len → ∃ (X Y : Int) (Z : Bool), W.cell? ⟨b, off + i * 3, none⟩ = some (.int .i64 X) ∧ W.cell? ⟨b, off + i * 3 + 1, none⟩ = some (.int .u8 Y) ∧ W.cell? ⟨b, off + i * 3 + 2, none⟩ = some (.bool Z) ∧ 0 ≤ Y ∧ Y < 256 := fun i hi => by
      have := key i hi
      rw [Addr.add_mid, Addr.add_mid, Addr.add_mid] at this
      exact this
    rw [Addr.add_mid] at c0
    have bl := World.block_lt_of_cell? W _ c0
    refine ⟨fun i => if h : i < len then Classical.choose (key' i h) else 0, fun i => if h : i < len then Classical.choose (Classical.choose_spec (key' i h)) else 0, fun i => if h : i < len then Classical.choose (Classical.choose_spec (Classical.choose_spec (key' i h))) else false, fun i hi => ⟨b, off, rfl, ?_⟩⟩
    have s := Classical.choose_spec (Classical.choose_spec (Classical.choose_spec (key' i hi)))
    simp only [dif_pos hi]
    exact ⟨s.1, s.2.1, s.2.2.1, s.2.2.2, bl⟩
set_option maxRecDepth 100000 in
/-- Bools that came in, opened. -/
theorem open_flags {W : World} {a : Option Addr} {len cap : Nat} {d : DataW H} {p : List MemPlace} (h : DataW.Trod enc Try.prog W 0 (fun _ => true) true 27 (.slice a len cap) d p) : ∃ B : Nat → Bool, KArg W a len B := by
  obtain ⟨fuel, hf⟩ := h
  rcases DataW.trod_slice Try.underlying27 hf with ⟨hcs, _⟩ | ⟨x, l, c, elems, rest, m, _, hcs, _, _, hl, _, hlen, hel, _, _⟩
  · simp [Value.cells] at hcs
    obtain ⟨rfl, rfl, rfl⟩ := hcs
    exact ⟨fun _ => false, .inl rfl⟩
  · simp [Value.cells] at hcs
    obtain ⟨rfl, rfl, rfl⟩ := hcs
    have hb : Try.prog.cellsOf 4 = 1 := by kernel_rfl
    have key : ∀ i, i < len → ∃ Z : Bool, W.cell? (x.add i) = some (.bool Z) := by
      intro i hi
      have e := hel i hi
      rw [hb, Nat.mul_one, List.getElem?_eq_getElem (by omega)] at e
      obtain ⟨cs, hcs, htr⟩ := Option.bind_eq_some_iff.1 e
      obtain ⟨_, hlen2, hcell⟩ := World.cells?_some hcs
      obtain ⟨Z, eZ, _⟩ := DataW.trod_bool Try.underlying4 htr
      subst eZ
      refine ⟨Z, ?_⟩
      have := hcell 0 (by omega)
      rw [show (x.add i).add 0 = x.add i from by simp [Addr.add]] at this
      simpa using this
    by_cases h0 : len = 0
    · exact ⟨fun _ => false, .inl h0⟩
    obtain ⟨b, off, spot⟩ := x
    obtain ⟨Z0, c0⟩ := key 0 (by omega)
    have hspot : spot = none := by simpa [Addr.add] using World.cell?_spot c0
    subst hspot
    have key' : ∀ i, i < len → ∃ Z : Bool, W.cell? ⟨b, off + i, none⟩ = some (.bool Z) := fun i hi => by
      have := key i hi
      rw [Addr.add_mid] at this
      exact this
    rw [Addr.add_mid] at c0
    refine ⟨fun i => if h : i < len then Classical.choose (key' i h) else false, .inr ⟨b, off, rfl, fun i hi => ?_, World.block_lt_of_cell? W _ c0⟩⟩
    have s := Classical.choose_spec (key' i hi)
    simp only [dif_pos hi]
    exact s
theorem trodAll_five {P : Program} {w : World} {base : Nat} {spare : Nat → Bool} {held : Bool} {t t' t'' t3 t4 : TypeId} {args : Array Value} {ds : List (DataW H)} {ps : List MemPlace} (h : DataW.TrodAll enc P w base spare held [t, t', t'', t3, t4] args.toList ds ps) :
    ∃ v v' v'' v3 v4 d d' d'' d3 d4 p p' p'' p3 p4, args = #[v, v', v'', v3, v4] ∧ ds = [d, d', d'', d3, d4] ∧ ps = p ++ p' ++ p'' ++ p3 ++ p4 ∧ DataW.Trod enc P w base spare held t v d p ∧ DataW.Trod enc P w base spare held t' v' d' p' ∧ DataW.Trod enc P w base spare held t'' v'' d'' p'' ∧ DataW.Trod enc P w base spare held t3 v3 d3 p3 ∧ DataW.Trod enc P w base spare held t4 v4 d4 p4 := by
  obtain ⟨v, vs, d, ds', p, q, hargs, rfl, rfl, hd, hrest⟩ := trodAll_cons h
  obtain ⟨v', vs', d', ds'', p', q', rfl, rfl, rfl, hd', hrest'⟩ := trodAll_cons hrest
  obtain ⟨v'', vs'', d'', ds''', p'', q'', rfl, rfl, rfl, hd'', hrest''⟩ := trodAll_cons hrest'
  obtain ⟨v3, vs3, d3, ds3, p3, q3, rfl, rfl, rfl, hd3, hrest3⟩ := trodAll_cons hrest''
  obtain ⟨v4, vs4, d4, ds4, p4, q4, rfl, rfl, rfl, hd4, hrest4⟩ := trodAll_cons hrest3
  obtain ⟨rfl, rfl, rfl⟩ := trodAll_nil hrest4
  exact ⟨v, v', v'', v3, v4, d, d', d'', d3, d4, p, p', p'', p3, p4, by cases args; simp_all, rfl, by simp, hd, hd', hd'', hd3, hd4⟩
end
set_option maxRecDepth 100000 in
theorem keeps_far (S x tear : Int) (a p : Option Addr) (n C nk Ck : Nat) (w : World) (h : S < 1 ∨ 20 < S ∨ 60 < n ∨ 100 < nk) : Calls Try.prog 6 #[.int .i64 S, .slice a n C, .int .i64 x, .slice p nk Ck, .int .i64 tear] w fun e w' => e = .returned (.bool true) ∧ Below w.heap.size w w' := by
  have KN : Hid (Calls Try.prog 5 #[] w fun e w' => e = .returned (.bool true) ∧ Below w.heap.size w w') := known_any w
  by_cases h1 : S < 1
  · go_enter Try.func6, Try.ntmps6
    go_wp2_with (go_at_call 5; refine KN.out.mono ?_; rintro e w1 ⟨rfl, b1⟩; have B1 : Hid (Below w.heap.size w w1) := b1; clear b1 KN)
    go_ret
    exact ⟨rfl, B1.out⟩
  · by_cases h2 : 20 < S
    · go_enter Try.func6, Try.ntmps6
      go_wp2_with (go_at_call 5; refine KN.out.mono ?_; rintro e w1 ⟨rfl, b1⟩; have B1 : Hid (Below w.heap.size w w1) := b1; clear b1 KN)
      go_ret
      exact ⟨rfl, B1.out⟩
    · by_cases h3 : 60 < n
      · have h3' : (60 : Int) < n := by omega
        go_enter Try.func6, Try.ntmps6
        go_wp2_with (go_at_call 5; refine KN.out.mono ?_; rintro e w1 ⟨rfl, b1⟩; have B1 : Hid (Below w.heap.size w w1) := b1; clear b1 KN)
        go_ret
        exact ⟨rfl, B1.out⟩
      · have h3' : ¬ (60 : Int) < n := by omega
        have h4 : (100 : Int) < nk := by omega
        go_enter Try.func6, Try.ntmps6
        go_wp2_with (go_at_call 5; refine KN.out.mono ?_; rintro e w1 ⟨rfl, b1⟩; have B1 : Hid (Below w.heap.size w w1) := b1; clear b1 KN)
        go_ret
        exact ⟨rfl, B1.out⟩
theorem keeps_any (S x tear : Int) (a p : Option Addr) (n C nk Ck : Nat) (A V : Nat → Int) (F kp : Nat → Bool) (w : World) (hx2 : x < 9223372036854775808) (hA : SArg w a n A V F) (hK : KArg w p nk kp) : Calls Try.prog 6 #[.int .i64 S, .slice a n C, .int .i64 x, .slice p nk Ck, .int .i64 tear] w fun e w' => e = .returned (.bool true) ∧ Below w.heap.size w w' := by
  by_cases h : S < 1 ∨ 20 < S ∨ 60 < n ∨ 100 < nk
  · exact keeps_far S x tear a p n C nk Ck w h
  · obtain ⟨S', rfl⟩ : ∃ S' : Nat, S = S' := ⟨S.toNat, by omega⟩
    by_cases hx : x < 0
    · exact keeps_plain S' a n C A V F x p nk Ck kp tear w (by omega) (by omega) (by omega) (by omega) hx hA hK
    · exact keeps_fused S' a n C A V F x p nk Ck kp tear w (by omega) (by omega) (by omega) (by omega) (by omega) hx2 hA hK
set_option maxRecDepth 100000 in
theorem keeps_lifted (os : Os) (started : os.Started) (H : Type) (enc : TypeId × Value → H) :
    ReturnsInHanded {} Try.checked os 6 .any (Rows.diskKeepsSpec.pre6 enc Try.prog Try.f6 Rows.diskKeepsRow.domain false) (Rows.diskKeepsSpec.post enc Try.prog Try.f6 false true false false) := by
  refine returnsInHanded_of_change (C := Try.checked) own_knob started (by kernel_rfl) Try.func6
    (ChangeSpec.witness6 (enc := enc) (C := Try.checked) false ⟨#[], #[.int .i64 0, .slice none 0 0, .int .i64 0, .slice none 0 0, .int .i64 0], []⟩ 8 (by kernel_rfl) (by kernel_rfl) (by kernel_rfl) (by kernel_rfl)) ?_
  intro W base args ds gs before hval0 hW hcnd _
  have hval : ∀ (j : Nat) t v, Try.f6.params[j]? = some t → args[j]? = some v → Value.okWide Try.prog W .any base t v := hval0
  have hW' := hW
  obtain ⟨p, q, hA0, hV, rfl, hfz, hnd⟩ := hW
  have hA : DataW.TrodAll enc Try.prog W 0 (fun _ => true) true Try.f6.params.toList args.toList ds p := hA0
  rw [Try.params6] at hA hval
  obtain ⟨v0, v1, v2, v3, v4, d0, d1, d2, d3, d4, p0, p1, p2, p3, p4, rfl, rfl, rfl, h0, h1, h2, h3, h4⟩ := trodAll_five hA
  obtain ⟨rfl, rfl⟩ := trodVars_none hV
  obtain ⟨x0, rfl⟩ := okWide_int Try.underlying3 (hval 0 3 v0 rfl rfl)
  obtain ⟨a1, len1, cap1, rfl⟩ := okWide_slice Try.underlying59 (hval 1 59 v1 rfl rfl)
  obtain ⟨a3, len3, cap3, rfl⟩ := okWide_slice Try.underlying27 (hval 3 27 v3 rfl rfl)
  obtain ⟨x4, rfl⟩ := okWide_int Try.underlying3 (hval 4 3 v4 rfl rfl)
  have k0 := h0
  have k1 := h1
  have k2 := h2
  have k3 := h3
  have k4 := h4
  have lt0 : ∀ x ∈ p0, x.block < W.heap.size := by obtain ⟨m, hm⟩ := k0; exact DataW.trod_lt m _ _ _ hm
  have lt1 : ∀ x ∈ p1, x.block < W.heap.size := by obtain ⟨m, hm⟩ := k1; exact DataW.trod_lt m _ _ _ hm
  have lt2 : ∀ x ∈ p2, x.block < W.heap.size := by obtain ⟨m, hm⟩ := k2; exact DataW.trod_lt m _ _ _ hm
  have lt3 : ∀ x ∈ p3, x.block < W.heap.size := by obtain ⟨m, hm⟩ := k3; exact DataW.trod_lt m _ _ _ hm
  have lt4 : ∀ x ∈ p4, x.block < W.heap.size := by obtain ⟨m, hm⟩ := k4; exact DataW.trod_lt m _ _ _ hm
  obtain ⟨x2, rfl, _, _, wf2⟩ := open_int Try.underlying3 (hval 2 3 v2 rfl rfl) h2
  obtain ⟨A, V, F, hS⟩ := open_steps h1
  obtain ⟨kp, hK⟩ := open_flags h3
  clear hA0 hval0
  refine (keeps_any x0 x2 x4 a1 a3 len1 cap1 len3 cap3 A V F kp W (i64_of_wf wf2) hS hK).mono fun e W' ⟨he, bel⟩ => ?_
  subst he
  exact ⟨_, rfl, _, _, _, [], _, [], hW', trodAll_mk1 (shut_bool Try.underlying4 _), trodAll_cons_mk (Below.trod laid_out (by kernel_rfl) (of_decide_eq_true (by kernel_rfl)) k0 bel lt0) (trodAll_cons_mk (Below.trod laid_out (by kernel_rfl) (of_decide_eq_true (by kernel_rfl)) k1 bel lt1) (trodAll_mk3 (Below.trod laid_out (by kernel_rfl) (of_decide_eq_true (by kernel_rfl)) k2 bel lt2) (Below.trod laid_out (by kernel_rfl) (of_decide_eq_true (by kernel_rfl)) k3 bel lt3) (Below.trod laid_out (by kernel_rfl) (of_decide_eq_true (by kernel_rfl)) k4 bel lt4))), rfl, bel.frame _, fun h => by cases h⟩

theorem keeps_holds : Rows.DiskKeepsSaid :=
  OpenClaim.holds_of_wide 6 Try.f6 rfl rfl rfl rfl rfl rfl rfl ⟨rfl, rfl, rfl, rfl, rfl⟩ rfl rfl rfl rfl rfl (by kernel_rfl) Try.func6 (by kernel_rfl)
    (of_decide_eq_true (by kernel_rfl)) (by unfold Func.isWrapper; first | (rw [if_pos (by decide +kernel)]; kernel_rfl) | (rw [if_neg (by decide +kernel)]; exact ⟨rfl, rfl⟩))
    (fun os started H enc _ => keeps_lifted os started H enc)
#print axioms keeps_holds
end Go.Proofs.Ytoehbljnapdbgaa
