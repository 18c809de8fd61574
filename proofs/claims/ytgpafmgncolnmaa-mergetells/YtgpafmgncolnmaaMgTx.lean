/-
  Walks, not a claim by itself: the law of merging in two steps. By the verifier.
-/
import Derived.Test.YtgpafmgncolnmaaMgTw
namespace Go.Proofs.Ytgpafmgncolnmaa
open Go.RowKit
theorem lists_size : (Try.prog.info? 27).map (·.size) = some 1 := by kernel_rfl
/-- Lists are cut behind k. -/
theorem lists_high {W : World} {A : Option Addr} {ls : List LV} (L C k : Nat) (hL : ls.length = L) (h : Lsts W A ls) (hC : L ≤ C) (hA : A = none → C = 0) (hk : k ≤ L) : ∃ a1 c1, (∀ w, (Instr.slice 22 (.slice A L C) none (some (.int .i64 (k : Int))) none).run Try.prog w = .ok (.slice a1 k c1) w) ∧ ∀ W', Below W.heap.size W W' → Lsts W' a1 (ls.take k) := by
  by_cases e : ls = []
  · subst e
    obtain rfl : L = 0 := by simpa using hL.symm
    obtain rfl : k = 0 := by omega
    cases A with
    | none =>
      obtain rfl := hA rfl
      refine ⟨none, 0, fun w => ?_, fun W' _ => ⟨fun x hx => by simp at hx, fun q => by simp at q⟩⟩
      have hq := under_lists
      simp [Instr.slice, Instr.sliceBounds, run_underlying hq, Instr.sliceBound, asIntOf]
    | some q =>
      refine ⟨some q, C, fun w => ?_, fun W' _ => ⟨fun x hx => by simp at hx, fun q => by simp at q⟩⟩
      have hq := under_lists
      have hs := lists_size
      cases hi : Try.prog.info? 27 with
      | none => simp [hi] at hs
      | some i => simp [Instr.slice, Instr.sliceBounds, run_underlying hq, Instr.sliceBound, asIntOf, sizeOf, typeInfo, hi, Addr.add]
  · obtain ⟨b, o, rfl, hr, hb⟩ := h.2 e
    refine ⟨_, C, fun w => run_slice_high 22 27 under_lists 1 lists_size b o L C k (by omega) w, fun W' hB => ⟨fun x hx => (h.1 x (List.mem_of_mem_take hx)).below hB, fun _ => ⟨b, o, rfl, fun j v hj => ?_, Nat.lt_of_lt_of_le hb hB.size⟩⟩⟩
    rw [List.map_take, List.getElem?_take] at hj
    split at hj
    · exact (hB.cell (p := ⟨b, o + j, none⟩) hb).trans (hr j v hj)
    · cases hj
theorem lists_low {W : World} {A : Option Addr} {ls : List LV} (L C k : Nat) (hL : ls.length = L) (h : Lsts W A ls) (hC : L ≤ C) (hA : A = none → C = 0) (hk : k ≤ L) : ∃ a2 c2, (∀ w, (Instr.slice 22 (.slice A L C) (some (.int .i64 (k : Int))) none none).run Try.prog w = .ok (.slice a2 (L - k) c2) w) ∧ ∀ W', Below W.heap.size W W' → Lsts W' a2 (ls.drop k) := by
  cases A with
  | none =>
    obtain rfl := hA rfl
    obtain rfl : L = 0 := by omega
    obtain rfl : k = 0 := by omega
    obtain rfl : ls = [] := List.eq_nil_of_length_eq_zero hL
    refine ⟨none, 0, fun w => ?_, fun W' _ => ⟨fun x hx => by simp at hx, fun q => by simp at q⟩⟩
    have hq := under_lists
    simp [Instr.slice, Instr.sliceBounds, run_underlying hq, Instr.sliceBound, asIntOf]
  | some q =>
    by_cases e : ls.drop k = []
    · rw [e]
      have hq := under_lists
      have hs := lists_size
      cases hi : Try.prog.info? 27 with
      | none => simp [hi] at hs
      | some i =>
        by_cases z : C = k
        · refine ⟨some q, C - k, fun w => ?_, fun W' _ => ⟨fun x hx => by simp at hx, fun q => by simp at q⟩⟩
          subst z
          simp [Instr.slice, Instr.sliceBounds, run_underlying hq, Instr.sliceBound, asIntOf, sizeOf, typeInfo, hi, hk]
        · refine ⟨some (q.add (k * i.size)), C - k, fun w => ?_, fun W' _ => ⟨fun x hx => by simp at hx, fun q => by simp at q⟩⟩
          simp [Instr.slice, Instr.sliceBounds, run_underlying hq, Instr.sliceBound, asIntOf, sizeOf, typeInfo, hi, hk, z]
    · have hne : ls ≠ [] := fun q => by subst q; simp at e
      obtain ⟨b, o, hq, hr, hb⟩ := h.2 hne
      injection hq with hq
      subst hq
      have hlt : k < L := by
        rcases Nat.lt_or_ge k L with z | z
        · exact z
        · exact absurd (List.drop_eq_nil_of_le (by omega)) e
      refine ⟨_, C - k, fun w => run_slice_low 22 27 1 under_lists lists_size b o L C k hk w, fun W' hB => ⟨fun x hx => (h.1 x (List.mem_of_mem_drop hx)).below hB, fun _ => ⟨b, o + k * 1, by unfold cutP; rw [if_neg (by omega)], fun j v hj => ?_, Nat.lt_of_lt_of_le hb hB.size⟩⟩⟩
      rw [List.map_drop, List.getElem?_drop] at hj
      have := (hB.cell (p := ⟨b, o + (k + j), none⟩) hb).trans (hr (k + j) v hj)
      rwa [show o + k * 1 + j = o + (k + j) by omega]
theorem prs_split (ls : List LV) (k : Nat) : prs ls = prs (ls.take k) ++ prs (ls.drop k) := by
  unfold prs
  rw [← List.map_append, List.take_append_drop]
theorem sm_all {ls : List LV} {m : Nat} (h : ∀ x ∈ ls, x.ps.length ≤ m ∧ ∀ y ∈ x.ps, Sm y) (hm : m ≤ 10000) : (∀ x ∈ allP ls, x.p.k.size ≤ 1000000 ∧ x.p.v.size ≤ 1000000) ∧ ∀ x ∈ ls, x.ps.length ≤ 10000 := by
  refine ⟨fun x hx => ?_, fun x hx => Nat.le_trans (h x hx).1 hm⟩
  obtain ⟨y, hy, hx⟩ := List.mem_flatMap.1 hx
  have := (h y hy).2 x hx
  unfold Sm at this
  omega
/-- What Merge answers where lists may be merged. -/
def MyPost (W : World) (l : List Pr) (e : Ending) (w' : World) : Prop := Below W.heap.size W w' ∧ ∃ (a : Option Addr) (c : Nat) (qs : List PV), e = .returned (.tuple #[.slice a qs.length c, .int .i64 0]) ∧ LOk w' ⟨a, c, qs⟩ ∧ qs.map PV.p = l ∧ qs.length ≤ 5000
theorem merge_yes {W0 : World} {A : Option Addr} {ls : List LV} {drop : Bool} {l : List Pr} (L C : Nat) (hL : ls.length = L) (h : Lsts W0 A ls) (hz : ∀ x ∈ allP ls, x.p.k.size ≤ 1000000 ∧ x.p.v.size ≤ 1000000) (hs : ∀ x ∈ ls, x.ps.length ≤ 10000) (hc : chkD (prs ls) = 0) (hl : mrgD (prs ls) drop = l) : Calls Try.prog 12 #[.slice A L C, .bool drop] W0 (MyPost W0 l) := by
  have h0 : chkC ls = 0 := by rw [chkC_eq]; exact hc
  refine (merge_ok L C hL h hz hs h0).mono ?_
  rintro e w' ⟨hB, (⟨q, _⟩ | ⟨_, lv, qs, rfl, hO, _, hq, hm, hn⟩)⟩
  · exact absurd h0 q
  · obtain ⟨a, c, rfl, hls⟩ := own_lst hO (fun x hx => (hq x hx).2)
    refine ⟨hB, a, c, qs, rfl, ⟨hls, ?_⟩, by rw [hm, mrgR_eq, hl], hn⟩
    rcases hO.form with ⟨e1, e2⟩ | ⟨g, cap, hv, _, hcap, _⟩
    · show qs.length ≤ c
      rw [e2]; exact Nat.zero_le _
    · injection hv with _ _ hv
      subst hv
      exact hcap
theorem merge_bad {W0 : World} {A : Option Addr} {ls : List LV} {drop : Bool} (L C : Nat) (hL : ls.length = L) (h : Lsts W0 A ls) (hf : L ≤ 1000) (hs : ∀ x ∈ ls, x.ps.length ≤ 10000) (hc : chkD (prs ls) ≠ 0) : Calls Try.prog 12 #[.slice A L C, .bool drop] W0 fun e w' => (∃ c : Int, (c != 0) = true ∧ c = chkD (prs ls) ∧ e = .returned (.tuple #[.slice none 0 0, .int .i64 c])) ∧ Below W0.heap.size W0 w' := by
  have h0 : chkC ls ≠ 0 := by rw [chkC_eq]; exact hc
  refine (merge_no L C hL h hf hs h0).mono ?_
  rintro e w' ⟨hB, (⟨_, rfl⟩ | ⟨q, _⟩)⟩
  · exact ⟨⟨_, by simpa using h0, by rw [chkC_eq], rfl⟩, hB⟩
  · exact absurd q h0
theorem oneD_mem : ∀ (l acc : List Pr) (y : Pr), y ∈ l.foldl insD acc → y ∈ acc ∨ y ∈ l
  | [], _, _, h => .inl h
  | x :: r, acc, y, h => by
    have ins : ∀ (l : List Pr), y ∈ insD l x → y = x ∨ y ∈ l := by
      intro l
      induction l with
      | nil => intro h; simp [insD] at h; exact .inl h
      | cons a r ih =>
        intro h
        unfold insD at h
        split at h
        · rcases List.mem_cons.1 h with rfl | h
          · exact .inr (by simp)
          · rcases ih h with h | h
            · exact .inl h
            · exact .inr (List.mem_cons_of_mem _ h)
        · split at h
          · exact .inr h
          · rcases List.mem_cons.1 h with h | h
            · exact .inl h
            · exact .inr h
    rcases oneD_mem r _ y h with h | h
    · rcases ins acc h with rfl | h
      · exact .inr (by simp)
      · exact .inl h
    · exact .inr (List.mem_cons_of_mem _ h)
theorem mrg_sizes {xs : List PV} {ls : List LV} (h : xs.map PV.p = mrgD (prs ls) false) (z : ∀ x ∈ allP ls, x.p.k.size ≤ 1000000 ∧ x.p.v.size ≤ 1000000) : ∀ x ∈ xs, x.p.k.size ≤ 1000000 ∧ x.p.v.size ≤ 1000000 := fun x hx => by
  have hm : x.p ∈ mrgD (prs ls) false := by rw [← h]; exact List.mem_map.2 ⟨x, hx, rfl⟩
  rw [mrgD_false] at hm
  have := (oneD_mem _ [] _ hm).resolve_left (by simp)
  rw [prs_flat] at this
  obtain ⟨y, hy, e⟩ := List.mem_map.1 this
  rw [← e]
  exact z y hy
theorem two_sizes {xs ys : List PV} {l1 l2 : List LV} {a b : Option Addr} {c d : Nat} (h1 : xs.map PV.p = mrgD (prs l1) false) (h2 : ys.map PV.p = mrgD (prs l2) false) (z1 : ∀ x ∈ allP l1, x.p.k.size ≤ 1000000 ∧ x.p.v.size ≤ 1000000) (z2 : ∀ x ∈ allP l2, x.p.k.size ≤ 1000000 ∧ x.p.v.size ≤ 1000000) : ∀ x ∈ allP [⟨a, c, xs⟩, ⟨b, d, ys⟩], x.p.k.size ≤ 1000000 ∧ x.p.v.size ≤ 1000000 := fun x hx => by
  unfold allP at hx
  simp only [List.flatMap_cons, List.flatMap_nil, List.append_nil] at hx
  rcases List.mem_append.1 hx with hx | hx
  · exact mrg_sizes h1 z1 x hx
  · exact mrg_sizes h2 z2 x hx
set_option maxRecDepth 100000 in
set_option maxHeartbeats 4000000 in
theorem twice_any {W : World} {A : Option Addr} {ls : List LV} {drop : Bool} (L C : Nat) (z : Int) (hL : ls.length = L) (h : Lsts W A ls) (hC : L ≤ C) (hA : A = none → C = 0) : Calls Try.prog 7 #[.slice A L C, .int .i64 z, .bool drop] W fun e w' => e = .returned (.bool true) ∧ Below W.heap.size W w' := by
  have HL := hidIt h
  have HN := hidIt (And.intro hL (And.intro hC hA))
  clear h hL hC hA
  go_enter Try.func7, Try.ntmps7
  go_wp2_with (first
    | (go_at_call 5; refine (known_any W).mono ?_; rintro e W1 ⟨rfl, hb⟩; have B1 := hidIt hb; clear hb)
    | (go_at_call 9; refine (largeLists_any L C 16 40 16 40 rfl rfl (by decide) (by decide) HN.out.1 (HL.out.below B1.out)).mono ?_; rintro e w2 ⟨bb, rfl, hw, hbb⟩; rw [hw]; clear hw w2; have BB := hidIt hbb; clear hbb; refine Held.out ?_))
  cases bb with
  | true =>
    refine Held.mk ?_
    go_wp2_with fail
    exact bodyPost_ret (v := .bool true) (by simp [results, Try.results7, go_sem]) rfl ⟨rfl, B1.out⟩
  | false =>
    obtain ⟨n16, hsm⟩ := BB.out rfl
    have SM := hidIt (sm_all hsm (by decide))
    have L16 := hidIt (show L ≤ 16 by have := HN.out.1; omega)
    clear n16 hsm BB
    by_cases hc : chkD (prs ls) = 0
    · have CC := hidIt hc
      have w1 : wrap64 ((L : Int) + 1) = ((L + 1 : Nat) : Int) ∧ IntKind.i64.wrap ((L : Int) + 1) = ((L + 1 : Nat) : Int) := by have := L16.out; exact ⟨by unfold wrap64; omega, by rw [IntKind.wrap_i64]; omega⟩
      obtain ⟨M, hM⟩ : ∃ M, M = L + 1 := ⟨_, rfl⟩
      rw [← hM] at w1
      have PK := fun (w : World) => pick_any w z M (by omega) (by have := L16.out; omega)
      have HPK := hidIt PK
      have HM := hidIt hM
      clear hc PK hM
      obtain ⟨w1, w2⟩ := w1
      refine Held.mk ?_
      go_wp2_with (first
        | (go_at_call 12; refine (merge_yes L C HN.out.1 (HL.out.below B1.out) SM.out.1 SM.out.2 CC.out rfl).mono ?_; rintro e W2 ⟨hb, qa, qc, qs, rfl, hk, hm, hn⟩; have Q2 := hidIt (And.intro hk (And.intro hm hn)); have B2 := hidIt (B1.out.trans (hb.mono B1.out.size)); obtain ⟨qn, hqn⟩ : ∃ qn, qs.length = qn := ⟨_, rfl⟩; rw [hqn]; have QN := hidIt hqn; clear hb hk hm hn hqn)
        | (go_at_call 31; refine (HPK.out W2).mono ?_; rintro e w3 ⟨k, hk, rfl, hw⟩; rw [hw]; clear hw w3; have KL := hidIt (show k ≤ L by have := HM.out; omega); clear hk; refine Held.out ?_))
      obtain ⟨a1, c1, hs1, hl1⟩ := lists_high L C k HN.out.1 HL.out HN.out.2.1 HN.out.2.2 KL.out
      obtain ⟨a2, c2, hs2, hl2⟩ := lists_low L C k HN.out.1 HL.out HN.out.2.1 HN.out.2.2 KL.out
      have L1 := hidIt hl1
      have L2 := hidIt hl2
      have N1 : Hid ((ls.take k).length = k) := hidIt (by have := KL.out; have := HN.out.1; simp; omega)
      have N2 : Hid ((ls.drop k).length = L - k) := hidIt (by have := HN.out.1; simp; omega)
      have CP := hidIt (chkD_part (a := prs (ls.take k)) (b := prs (ls.drop k)) (by rw [← prs_split]; exact CC.out))
      have Z1 : Hid ((∀ x ∈ allP (ls.take k), x.p.k.size ≤ 1000000 ∧ x.p.v.size ≤ 1000000) ∧ ∀ x ∈ ls.take k, x.ps.length ≤ 10000) := hidIt ⟨fun x hx => SM.out.1 x (by obtain ⟨y, hy, hx⟩ := List.mem_flatMap.1 hx; exact List.mem_flatMap.2 ⟨y, List.mem_of_mem_take hy, hx⟩), fun x hx => SM.out.2 x (List.mem_of_mem_take hx)⟩
      have Z2 : Hid ((∀ x ∈ allP (ls.drop k), x.p.k.size ≤ 1000000 ∧ x.p.v.size ≤ 1000000) ∧ ∀ x ∈ ls.drop k, x.ps.length ≤ 10000) := hidIt ⟨fun x hx => SM.out.1 x (by obtain ⟨y, hy, hx⟩ := List.mem_flatMap.1 hx; exact List.mem_flatMap.2 ⟨y, List.mem_of_mem_drop hy, hx⟩), fun x hx => SM.out.2 x (List.mem_of_mem_drop hx)⟩
      have kk : (0 : Int) ≤ (k : Int) := by omega
      have kk2 : (k : Int) ≤ (L : Int) := by have := KL.out; omega
      obtain ⟨nk, hnk⟩ : ∃ nk, nk = L - k := ⟨_, rfl⟩
      rw [← hnk] at hs2
      have N2' : Hid ((ls.drop k).length = nk) := hidIt (by rw [hnk]; exact N2.out)
      clear hl1 hl2 w1 w2 hnk N2
      have t1 : Hid True := trivial
      refine Held.mk ?_
      go_wp2_with (first
        | (go_at_call 12; have _q := t1; clear t1 _q; refine (merge_yes k c1 N1.out (L1.out W2 B2.out) Z1.out.1 Z1.out.2 CP.out.1 rfl).mono ?_; rintro e W4 ⟨hb, xa, xc, xs, rfl, hk, hm, hn⟩; have X4 := hidIt hk; have M4 := hidIt (And.intro hm hn); have Q4 := hidIt (Q2.out.1.below hb); have B4 := hidIt (B2.out.trans (hb.mono B2.out.size)); obtain ⟨xn, hxn⟩ : ∃ xn, xs.length = xn := ⟨_, rfl⟩; rw [hxn]; have XN := hidIt hxn; clear hb hk hm hn hxn; have t2 : Hid True := trivial)
        | (go_at_call 12; have _q := t2; clear t2 _q; refine (merge_yes nk c2 N2'.out (L2.out W4 B4.out) Z2.out.1 Z2.out.2 CP.out.2.1 rfl).mono ?_; rintro e W5 ⟨hb, ya, yc, ys, rfl, hk, hm, hn⟩; have Y5 := hidIt hk; have M5 := hidIt (And.intro hm hn); have Q5 := hidIt (Q4.out.below hb); have X5 := hidIt (X4.out.below hb); have B5 := hidIt (B4.out.trans (hb.mono B4.out.size)); obtain ⟨yn, hyn⟩ : ∃ yn, ys.length = yn := ⟨_, rfl⟩; rw [hyn]; have YN := hidIt hyn; clear hb hk hm hn hyn; obtain ⟨W6, hW, hl, hb⟩ := bs_lists W5 [⟨xa, xc, xs⟩, ⟨ya, yc, ys⟩] (by intro x hx; simp only [List.mem_cons, List.not_mem_nil, or_false] at hx; rcases hx with rfl | rfl; exact X5.out; exact Y5.out); have HW6 : Hid (W6 = W5.alloc (.cells #[.slice xa xn xc, .slice ya yn yc] 27)) := hidIt (by rw [hW, ← XN.out, ← YN.out]; rfl); have S6 := hidIt hl; have Q6 := hidIt (Q5.out.below hb); have B6 := hidIt (B5.out.trans (hb.mono B5.out.size)); clear hW hl hb; have t3 : Hid True := trivial)
        | (have _q := t3; refine wpList_run_w (by rfl) (.slice (some ⟨W5.heap.size, 0, none⟩) 2 2) W6 (by rw [HW6.out]; exact bsl_run 22 27 2 _ rfl 1 24 _ _ _ under_lists info_list (by decide) (by decide) rfl (by kernel_rfl)) ?_; clear t3 _q; have t4 : Hid True := trivial)
        | (go_at_call 12; have _q := t4; clear t4 _q; refine (merge_yes (ls := [⟨xa, xc, xs⟩, ⟨ya, yc, ys⟩]) (l := mrgD (prs ls) drop) 2 2 rfl S6.out (two_sizes M4.out.1 M5.out.1 Z1.out.1 Z2.out.1) (by intro x hx; simp only [List.mem_cons, List.not_mem_nil, or_false] at hx; rcases hx with rfl | rfl; exact Nat.le_trans M4.out.2 (by decide); exact Nat.le_trans M5.out.2 (by decide)) (by show chkD [xs.map PV.p, ys.map PV.p] = 0; rw [M4.out.1, M5.out.1]; exact CP.out.2.2) (by show mrgD [xs.map PV.p, ys.map PV.p] drop = _; rw [M4.out.1, M5.out.1, mrgD_two, ← prs_split])).mono ?_; rintro e W7 ⟨hb, va, vc, vs, rfl, hk, hm, hn⟩; have V7 := hidIt hk; have M7 := hidIt (And.intro hm hn); have Q7 := hidIt (Q6.out.below hb); have B7 := hidIt (B6.out.trans (hb.mono B6.out.size)); obtain ⟨vn, hvn⟩ : ∃ vn, vs.length = vn := ⟨_, rfl⟩; rw [hvn]; have VN := hidIt hvn; clear hb hk hm hn hvn)
        | (go_at_call 16; refine (samePairs_any vn qn vc qc VN.out QN.out V7.out.1 Q7.out.1 (by have := VN.out; have := M7.out.2; omega)).mono ?_; rintro e W8 ⟨h1, hb⟩; have h2 : e = .returned (.bool true) := (by rw [h1, M7.out.1, Q2.out.2.1]; simp); subst h2; clear h1; have B8 := hidIt (B7.out.trans (hb.mono B7.out.size)); clear hb))
      exact bodyPost_ret (v := .bool true) (by simp [results, Try.results7, go_sem]) rfl ⟨rfl, B8.out⟩
    · have CC := hidIt hc
      clear hc
      refine Held.mk ?_
      go_wp2_with (go_at_call 12; refine (merge_bad L C HN.out.1 (HL.out.below B1.out) (by have := L16.out; omega) SM.out.2 CC.out).mono ?_; rintro e W2 ⟨⟨c, hc, _, rfl⟩, hb⟩; have B2 := hidIt (B1.out.trans (hb.mono B1.out.size)); clear hb)
      exact bodyPost_ret (v := .bool true) (by simp [results, Try.results7, go_sem]) rfl ⟨rfl, B2.out⟩
end Go.Proofs.Ytgpafmgncolnmaa
