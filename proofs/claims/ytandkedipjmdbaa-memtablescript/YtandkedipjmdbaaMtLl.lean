/-
  Walks, not a claim by itself: the script's lay. By the verifier.
-/
import Derived.Test.YtandkedipjmdbaaMtSn
namespace Go.Proofs.Ytandkedipjmdbaa
open Go.RowKit
theorem lent_blocks {h n g1 g2 : Nat} (a : h ≤ g1) (b : h ≤ g2) (c : g1 < n) (d : g2 < n) : ∀ x, x ∈ [g1, g2] → h ≤ x ∧ x < n := fun x hx => by
  simp at hx
  rcases hx with rfl | rfl
  · exact ⟨a, c⟩
  · exact ⟨b, d⟩
set_option maxRecDepth 100000 in
set_option maxHeartbeats 4000000 in
theorem llay_false {H : Nat} {W : World} {P t r : Nat} {v lv : Value} {qs rs : List PV} (h : SI H W P t r v qs lv rs) (he : rs.map PV.p = qs.map PV.p) (ka va : Option Addr) (n m kC vC : Nat) (fk fv : Nat → Int) (hk : Arg W ka n fk) (hv : Arg W va m fv) (hn : n ≤ 100000 ∧ m ≤ 100000) (hd : (0 < n → ∀ q, ka = some q → q.block ∉ t :: v.ownBlock.toList ∧ q.block ∉ [r]) ∧ (0 < m → ∀ q, va = some q → q.block ∉ t :: v.ownBlock.toList ∧ q.block ∉ [r])) :
    Calls Try.prog 34 #[.pointer (some ⟨P, 0, none⟩), .slice ka n kC, .slice va m vC, .bool false] W fun e w' => e = .returned (.bool true) ∧ StP H W P w' := by
  have S0 := hidIt h
  have HE := hidIt he
  have HK := hidIt hk
  have HV := hidIt hv
  have HN := hidIt hn
  have DA := hidIt hd
  have na : Hid True := trivial
  have nb : Hid True := trivial
  have nc : Hid True := trivial
  clear h he hk hv hn hd
  go_enter Try.func34, Try.ntmps34
  go_wp2_with (first
    | (go_at_call 47; have _q := na; clear na _q; refine (lent_any ka n kC fk W HK.out (Nat.le_trans HN.out.1 (by decide))).mono ?_; rintro e W1 ⟨g1, rfl, l1, R1, b1⟩; have H1 := hidIt (And.intro l1 (And.intro R1 b1)); clear l1 R1 b1)
    | (go_at_call 47; refine (lent_any va m vC fv W1 (HV.out.below H1.out.2.2) (Nat.le_trans HN.out.2 (by decide))).mono ?_; rintro e W2 ⟨g2, rfl, l2, Q2, b2⟩; have R2 := hidIt (And.intro (H1.out.2.1.below b2) Q2); have B2 := H1.out.2.2.trans (b2.mono H1.out.2.2.size); have E2 : Hid (Below H W W2) := hidIt (B2.mono S0.out.size); have S2 := hidIt (SN.of (N := [g1, g2]) S0.out B2 (lent_blocks H1.out.1 (Nat.le_trans H1.out.2.2.size l2) R2.out.1.2.2 R2.out.2.2.2)); have K2 := hidIt (lent_text R2.out.1 HK.out.bytes (txtN_size _ _) rfl); have V2 := hidIt (lent_text R2.out.2 HV.out.bytes (txtN_size _ _) rfl); have A2 := hidIt (And.intro (HK.out.below B2) (HV.out.below B2)); have NT : Hid (∀ b, b ∈ [g1, g2] → b ∉ t :: v.ownBlock.toList) := hidIt (fun b hb q => S2.out.dj b hb (List.mem_cons_of_mem _ (List.mem_append_left _ q))); have NR : Hid (∀ b, b ∈ [g1, g2] → b ∉ [r]) := hidIt (fun b hb q => S2.out.dj b hb (List.mem_cons_of_mem _ (List.mem_append_right _ (by simp at q; simp [q])))); have GH : Hid (H ≤ g1 ∧ H ≤ g2 ∧ g1 ≠ g2) := hidIt ⟨Nat.le_trans S0.out.size H1.out.1, Nat.le_trans S0.out.size (Nat.le_trans H1.out.2.2.size l2), fun q => by have := H1.out.2.1.2.2; omega⟩; have p2 := (S2.out.si.pr.cel 0 _ rfl).1; clear l2 Q2 b2 B2)
    | (go_at_call 24; refine (tput_ok S2.out.si.tab K2.out V2.out).mono ?_; rintro e W3 ⟨v', qs', rfl, h1, h2, h3, h4, h5⟩; have S3 := hidIt (S2.out.layT h1 h3 h4 h5); have Q3 := hidIt h2; have R3 := hidIt (And.intro (R2.out.1.off h3 (NT.out _ (by simp))) (R2.out.2.off h3 (NT.out _ (by simp)))); have E3 := hidIt (E2.out.trans (h3.below (B := H) S2.out.si.hT S2.out.si.size)); have A3 := hidIt (And.intro (A2.out.1.off h3 (fun z q hq => (DA.out.1 z q hq).1)) (A2.out.2.off h3 (fun z q hq => (DA.out.2 z q hq).1))); have p3 := (S3.out.si.pr.cel 1 _ rfl).1; clear h1 h2 h3 h4 h5 p2)
    | (go_at_call 48; refine (rlay_ok (x := (PV.mk (.slice ka n kC) (.slice va m vC) ⟨txtN n fk, txtN m fv, false⟩)) S3.out.si.ref ⟨Txt.of (C := kC) A3.out.1, Txt.of (C := vC) A3.out.2⟩).mono ?_; rintro e W4 ⟨lv', rs', rfl, h1, h2, h3, h4, h5⟩; rw [HE.out]; have S4 := hidIt (S3.out.layR h1 h3 h4 h5); have Q4 : Hid (rs'.map PV.p = qs'.map PV.p) := hidIt (by rw [h2, Q3.out, HE.out]); have R4 := hidIt (And.intro (R3.out.1.off h3 (NR.out _ (by simp))) (R3.out.2.off h3 (NR.out _ (by simp)))); have E4 := hidIt (E3.out.trans (h3.below (B := H) (fun b hb => S3.out.si.hR b (by simp at hb; simp [hb])) S3.out.si.size)); have A4 := hidIt (And.intro (A3.out.1.off h3 (fun z q hq => (DA.out.1 z q hq).2)) (A3.out.2.off h3 (fun z q hq => (DA.out.2 z q hq).2))); clear h1 h2 h3 h4 h5 p3)
    | (go_at_call 49; have _q := nb; clear nb _q; refine (kept_any g1 ka n kC fk W4 A4.out.1 (Nat.le_trans HN.out.1 (by decide)) R4.out.1).mono ?_; rintro e W5 ⟨rfl, hb⟩; have S5 := hidIt (S4.out.more hb); have R5 := hidIt (And.intro (R4.out.1.below hb) (R4.out.2.below hb)); have E5 := hidIt (E4.out.trans (hb.mono S4.out.si.size)); have A5 := hidIt (And.intro (A4.out.1.below hb) (A4.out.2.below hb)); clear hb)
    | (go_at_call 49; refine (kept_any g2 va m vC fv W5 A5.out.2 (Nat.le_trans HN.out.2 (by decide)) R5.out.2).mono ?_; rintro e W6 ⟨rfl, hb⟩; have S6 := hidIt (S5.out.more hb); have R6 := hidIt (And.intro (R5.out.1.below hb) (R5.out.2.below hb)); have E6 := hidIt (E5.out.trans (hb.mono S5.out.si.size)); clear hb)
    | (go_at_call 33; have _q := nc; clear nc _q; go_loud (refine (over_any g1 n (n + 3) _ W6 R6.out.1 (by omega) (by have := HN.out.1; omega)).mono ?_; rintro e W7 ⟨rfl, _, hb⟩; have S7 := hidIt (S6.out.off (Off.but (bs := [g1]) hb (by simp)) (by intro b hb; simp at hb; simp [hb])); have R7 := hidIt (R6.out.2.but hb GH.out.2.2.symm); have E7 := hidIt (E6.out.trans (show Below H _ _ from hb.below GH.out.1 S6.out.si.size)); clear hb))
    | (go_at_call 33; refine (over_any g2 m (m + 3) _ W7 R7.out (by omega) (by have := HN.out.2; omega)).mono ?_; rintro e W8 ⟨rfl, _, hb⟩; have S8 := hidIt (S7.out.off (Off.but (bs := [g2]) hb (by simp)) (by intro b hb; simp at hb; simp [hb])); have E8 := hidIt (E7.out.trans (show Below H _ _ from hb.below GH.out.2.1 S7.out.si.size)); clear hb))
  exact bodyPost_ret (v := .bool true) (by simp [results, Try.results34, go_sem]) rfl ⟨rfl, t, r, v', qs', lv', rs', S8.out.si, Q4.out, E8.out⟩
set_option maxRecDepth 100000 in
set_option maxHeartbeats 4000000 in
theorem llay_true {H : Nat} {W : World} {P t r : Nat} {v lv : Value} {qs rs : List PV} (h : SI H W P t r v qs lv rs) (he : rs.map PV.p = qs.map PV.p) (ka va : Option Addr) (n m kC vC : Nat) (fk fv : Nat → Int) (hk : Arg W ka n fk) (hv : Arg W va m fv) (hn : n ≤ 100000 ∧ m ≤ 100000) (hd : (0 < n → ∀ q, ka = some q → q.block ∉ t :: v.ownBlock.toList ∧ q.block ∉ [r]) ∧ (0 < m → ∀ q, va = some q → q.block ∉ t :: v.ownBlock.toList ∧ q.block ∉ [r])) :
    Calls Try.prog 34 #[.pointer (some ⟨P, 0, none⟩), .slice ka n kC, .slice va m vC, .bool true] W fun e w' => e = .returned (.bool true) ∧ StP H W P w' := by
  have S0 := hidIt h
  have HE := hidIt he
  have HK := hidIt hk
  have HV := hidIt hv
  have HN := hidIt hn
  have DA := hidIt hd
  have na : Hid True := trivial
  have nb : Hid True := trivial
  have nc : Hid True := trivial
  clear h he hk hv hn hd
  go_enter Try.func34, Try.ntmps34
  go_wp2_with (first
    | (go_at_call 47; have _q := na; clear na _q; refine (lent_any ka n kC fk W HK.out (Nat.le_trans HN.out.1 (by decide))).mono ?_; rintro e W1 ⟨g1, rfl, l1, R1, b1⟩; have H1 := hidIt (And.intro l1 (And.intro R1 b1)); clear l1 R1 b1)
    | (go_at_call 47; refine (lent_any va m vC fv W1 (HV.out.below H1.out.2.2) (Nat.le_trans HN.out.2 (by decide))).mono ?_; rintro e W2 ⟨g2, rfl, l2, Q2, b2⟩; have R2 := hidIt (And.intro (H1.out.2.1.below b2) Q2); have B2 := H1.out.2.2.trans (b2.mono H1.out.2.2.size); have E2 : Hid (Below H W W2) := hidIt (B2.mono S0.out.size); have S2 := hidIt (SN.of (N := [g1, g2]) S0.out B2 (lent_blocks H1.out.1 (Nat.le_trans H1.out.2.2.size l2) R2.out.1.2.2 R2.out.2.2.2)); have K2 := hidIt (lent_text R2.out.1 HK.out.bytes (txtN_size _ _) rfl); have V2 := hidIt (lent_text R2.out.2 HV.out.bytes (txtN_size _ _) rfl); have A2 := hidIt (And.intro (HK.out.below B2) (HV.out.below B2)); have NT : Hid (∀ b, b ∈ [g1, g2] → b ∉ t :: v.ownBlock.toList) := hidIt (fun b hb q => S2.out.dj b hb (List.mem_cons_of_mem _ (List.mem_append_left _ q))); have NR : Hid (∀ b, b ∈ [g1, g2] → b ∉ [r]) := hidIt (fun b hb q => S2.out.dj b hb (List.mem_cons_of_mem _ (List.mem_append_right _ (by simp at q; simp [q])))); have GH : Hid (H ≤ g1 ∧ H ≤ g2 ∧ g1 ≠ g2) := hidIt ⟨Nat.le_trans S0.out.size H1.out.1, Nat.le_trans S0.out.size (Nat.le_trans H1.out.2.2.size l2), fun q => by have := H1.out.2.1.2.2; omega⟩; have p2 := (S2.out.si.pr.cel 0 _ rfl).1; clear l2 Q2 b2 B2)
    | (go_at_call 25; refine (tremove_ok S2.out.si.tab K2.out).mono ?_; rintro e W3 ⟨v', qs', rfl, h1, h2, h3, h4, h5⟩; have S3 := hidIt (S2.out.layT h1 h3 h4 h5); have Q3 := hidIt h2; have R3 := hidIt (And.intro (R2.out.1.off h3 (NT.out _ (by simp))) (R2.out.2.off h3 (NT.out _ (by simp)))); have E3 := hidIt (E2.out.trans (h3.below (B := H) S2.out.si.hT S2.out.si.size)); have A3 := hidIt (And.intro (A2.out.1.off h3 (fun z q hq => (DA.out.1 z q hq).1)) (A2.out.2.off h3 (fun z q hq => (DA.out.2 z q hq).1))); have p3 := (S3.out.si.pr.cel 1 _ rfl).1; clear h1 h2 h3 h4 h5 p2)
    | (go_at_call 48; refine (rlay_ok (x := (PV.mk (.slice ka n kC) (.slice none 0 0) ⟨txtN n fk, .empty, true⟩)) S3.out.si.ref ⟨Txt.of (C := kC) A3.out.1, Txt.nil _ _ _⟩).mono ?_; rintro e W4 ⟨lv', rs', rfl, h1, h2, h3, h4, h5⟩; rw [HE.out]; have S4 := hidIt (S3.out.layR h1 h3 h4 h5); have Q4 : Hid (rs'.map PV.p = qs'.map PV.p) := hidIt (by rw [h2, Q3.out, HE.out]); have R4 := hidIt (And.intro (R3.out.1.off h3 (NR.out _ (by simp))) (R3.out.2.off h3 (NR.out _ (by simp)))); have E4 := hidIt (E3.out.trans (h3.below (B := H) (fun b hb => S3.out.si.hR b (by simp at hb; simp [hb])) S3.out.si.size)); have A4 := hidIt (And.intro (A3.out.1.off h3 (fun z q hq => (DA.out.1 z q hq).2)) (A3.out.2.off h3 (fun z q hq => (DA.out.2 z q hq).2))); clear h1 h2 h3 h4 h5 p3)
    | (go_at_call 49; have _q := nb; clear nb _q; refine (kept_any g1 ka n kC fk W4 A4.out.1 (Nat.le_trans HN.out.1 (by decide)) R4.out.1).mono ?_; rintro e W5 ⟨rfl, hb⟩; have S5 := hidIt (S4.out.more hb); have R5 := hidIt (And.intro (R4.out.1.below hb) (R4.out.2.below hb)); have E5 := hidIt (E4.out.trans (hb.mono S4.out.si.size)); have A5 := hidIt (And.intro (A4.out.1.below hb) (A4.out.2.below hb)); clear hb)
    | (go_at_call 33; have _q := nc; clear nc _q; go_loud (refine (over_any g1 n (n + 3) _ W5 R5.out.1 (by omega) (by have := HN.out.1; omega)).mono ?_; rintro e W7 ⟨rfl, _, hb⟩; have S7 := hidIt (S5.out.off (Off.but (bs := [g1]) hb (by simp)) (by intro b hb; simp at hb; simp [hb])); have R7 := hidIt (R5.out.2.but hb GH.out.2.2.symm); have E7 := hidIt (E5.out.trans (show Below H _ _ from hb.below GH.out.1 S5.out.si.size)); clear hb))
    | (go_at_call 33; refine (over_any g2 m (m + 3) _ W7 R7.out (by omega) (by have := HN.out.2; omega)).mono ?_; rintro e W8 ⟨rfl, _, hb⟩; have S8 := hidIt (S7.out.off (Off.but (bs := [g2]) hb (by simp)) (by intro b hb; simp at hb; simp [hb])); have E8 := hidIt (E7.out.trans (show Below H _ _ from hb.below GH.out.2.1 S7.out.si.size)); clear hb))
  exact bodyPost_ret (v := .bool true) (by simp [results, Try.results34, go_sem]) rfl ⟨rfl, t, r, v', qs', lv', rs', S8.out.si, Q4.out, E8.out⟩
end Go.Proofs.Ytandkedipjmdbaa
