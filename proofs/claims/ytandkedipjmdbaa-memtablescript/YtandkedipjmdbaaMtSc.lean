/-
  Walks, not a claim by itself: MemtableScript's function. By the verifier.
-/
import Derived.Test.YtandkedipjmdbaaMtA3
import Derived.Test.YtandkedipjmdbaaMtA4
import Derived.Test.YtandkedipjmdbaaMtA5
namespace Go.Proofs.Ytandkedipjmdbaa
open Go.RowKit
attribute [-go_sem] Builtin.append_
theorem anyH_S {P : Program} {md : Region.Mode} {ops : Array Oper} {Q : Exit → Go.Act → World → Prop} {S S' : World → Prop} (hS : ∀ w, S' w → S w) : ∀ (fuel : Nat) (listed : Array Bool) (a : Go.Act) (w : World), wpAnyH P md ops Q S' fuel listed a w → wpAnyH P md ops Q S fuel listed a w
  | 0, _, _, _, h => h
  | fuel + 1, _, _, _, h => ⟨h.1, fun i hi => wpOp_mono (fun a' w' h' => ⟨hS _ h'.1, anyH_S hS fuel _ a' w' h'.2⟩) (h.2 i hi)⟩
/-- An act as Go has it, and its texts. -/
structure AV where
  kd : Int
  nn : Int
  k : Value
  v : Value
  tk : ByteArray
  tv : ByteArray
def AV.cs (x : AV) : List Value := [.int .i64 x.kd, .int .i64 x.nn, x.k, x.v]
/-- Acts that are read alone. -/
def LA (W : World) (a : Option Addr) (acl : List AV) : Prop := (∀ x ∈ acl, Txt W [] x.k x.tk ∧ Txt W [] x.v x.tv) ∧ ∀ i x, acl[i]? = some x → ∃ b off, a = some ⟨b, off, none⟩ ∧ W.rangeAt b (off + i * 4) x.cs ∧ b < W.heap.size
theorem aa_of {W : World} {N : List Nat} {s : Value} {t : ByteArray} (h : Txt W N s t) : ∃ a C f, s = .slice a t.size C ∧ (t.size ≤ 300 → AA W.heap.size W a t.size f) := by
  obtain ⟨a, C, f, hs, hA, _, _⟩ := h
  refine ⟨a, C, f, hs, fun hn => ⟨hA, hn, fun h0 q hq => ?_⟩⟩
  rcases hA with ⟨h1, _⟩ | ⟨_, b, off, ha, hl⟩
  · omega
  · rw [hq] at ha
    injection ha with ha
    subst ha
    exact hl.2.2
theorem act_any {H : Nat} {W : World} {P t r : Nat} {v lv : Value} {qs rs : List PV} (h : SI H W P t r v qs lv rs) (he : rs.map PV.p = qs.map PV.p) (kd nn : Int) (ka va : Option Addr) (n m kC vC : Nat) (fk fv : Nat → Int) (hk : AA H W ka n fk) (hv : AA H W va m fv) : Calls Try.prog 13 #[.pointer (some ⟨P, 0, none⟩), .agg (actC kd nn ka va n m kC vC).toArray] W fun e w' => e = .returned (.bool true) ∧ StP H W P w' := by
  by_cases h0 : kd = 0
  · exact act_0 h he kd nn ka va n m kC vC fk fv hk hv h0
  · by_cases h1 : kd = 1
    · exact act_1 h he kd nn ka va n m kC vC fk fv hk hv h1
    · by_cases h2 : kd = 2
      · exact act_2 h he kd nn ka va n m kC vC fk fv hk hv h2
      · by_cases h3 : kd = 3
        · exact act_3 h he kd nn ka va n m kC vC fk fv hk hv h3
        · by_cases h4 : kd = 4
          · exact act_4 h he kd nn ka va n m kC vC fk fv hk hv h4
          · by_cases h5 : kd = 5
            · exact act_5 h he kd nn ka va n m kC vC fk fv hk hv h5
            · exact act_else h he kd nn ka va n m kC vC fk fv hk hv ⟨h0, h1, h2, h3, h4, h5⟩
theorem si_new {W W1 W2 W3 : World} (h1 : Tab W1 W.heap.size (.slice none 0 0) []) (b1 : Below W.heap.size W W1) (R2 : Rec19 W2 W1.heap.size 0 [.slice none 0 0]) (b2 : Below W1.heap.size W1 W2) (z2 : W2.heap.size = W1.heap.size + 1) (R3 : Rec19 W3 W2.heap.size 0 [.pointer (some ⟨W.heap.size, 0, none⟩), .pointer (some ⟨W1.heap.size, 0, none⟩)]) (b3 : Below W2.heap.size W2 W3) : SI W.heap.size W3 W2.heap.size W.heap.size W1.heap.size (.slice none 0 0) [] (.slice none 0 0) [] := by
  have l1 := h1.rc.2.2
  have l2 := R2.2.2
  have s1 := b1.size
  have b12 := b2.trans (b3.mono b2.size)
  refine ⟨h1.below b12, ⟨OwnP.nil _ _, R2.below b3, fun g hg => (by cases hg), fun x hx => (by cases hx), List.Pairwise.nil, by simp⟩, R3, fun b hb q => ?_, fun b hb => ?_, fun x hx => (by cases hx), fun x hx => (by cases hx), by omega, fun b hb => ?_, fun b hb => ?_⟩
  · simp [Value.ownBlock] at hb q
    omega
  · simp [Value.ownBlock] at hb
    omega
  · simp [Value.ownBlock] at hb
    omega
  · simp [Value.ownBlock] at hb
    omega
theorem m_ar (k n : Nat) (h : k < n) (hn : n ≤ 100) : (k : Int) < (n : Int) ∧ (0 : Int) ≤ (k : Int) ∧ wrap64 ((k : Int) + 1) = (k : Int) + 1 ∧ IntKind.i64.wrap ((k : Int) + 1) = (k : Int) + 1 := k_ar k n h (by omega)
set_option maxRecDepth 100000 in
set_option maxHeartbeats 8000000 in
theorem script_any (W : World) (a : Option Addr) (acl : List AV) (n C : Nat) (hn : acl.length = n) (hL : LA W a acl) : Calls Try.prog 3 #[.slice a n C] W fun e w' => e = .returned (.bool true) ∧ Below W.heap.size W w' := by
  have HL := hidIt hL
  have HN := hidIt hn
  clear hL hn
  by_cases hb : 100 < (n : Int)
  · have c0 : (100 < (n : Int)) = True := eq_true hb
    clear hb
    go_enter Try.func3, Try.ntmps3
    go_wp2_with (first
      | (go_at_call 9; refine (tnew_any W).mono ?_; rintro e W1 ⟨rfl, h1, h2⟩; have T1 := hidIt (And.intro h1 h2); clear h1 h2)
      | (refine wpList_box_rec rfl 29 (.tmp 7) rfl [.slice none 0 0] rfl W1.heap.size rfl ?_; intro W2 R2 B2 z2; have H2 := hidIt (And.intro R2 (And.intro B2 z2)); clear R2 B2 z2)
      | (refine wpList_box_rec rfl 31 (.tmp 9) rfl [.pointer (some ⟨W.heap.size, 0, none⟩), .pointer (some ⟨W1.heap.size, 0, none⟩)] rfl W2.heap.size rfl ?_; intro W3 R3 B3 z3; have E3 := hidIt (T1.out.2.trans ((H2.out.2.1.trans (B3.mono H2.out.2.1.size)).mono T1.out.2.size)); have p0 := (R3.cel 0 _ rfl).1; clear R3 B3 z3)
      | (go_at_call 10; refine (awake_any W3).mono ?_; rintro e W4 ⟨rfl, hb⟩; have E4 := hidIt (E3.out.trans (hb.mono E3.out.size)); clear hb))
    exact bodyPost_ret (v := .bool true) (by simp [results, Try.results3, go_sem]) rfl ⟨rfl, E4.out⟩
  · have c0 : (100 < (n : Int)) = False := eq_false hb
    have N100 := hidIt (show n ≤ 100 by omega)
    clear hb
    go_enter Try.func3, Try.ntmps3
    go_wp2_with (first
      | (go_at_call 9; refine (tnew_any W).mono ?_; rintro e W1 ⟨rfl, h1, h2⟩; have T1 := hidIt (And.intro h1 h2); clear h1 h2)
      | (refine wpList_box_rec rfl 29 (.tmp 7) rfl [.slice none 0 0] rfl W1.heap.size rfl ?_; intro W2 R2 B2 z2; have H2 := hidIt (And.intro R2 (And.intro B2 z2)); clear R2 B2 z2)
      | (refine wpList_box_rec rfl 31 (.tmp 9) rfl [.pointer (some ⟨W.heap.size, 0, none⟩), .pointer (some ⟨W1.heap.size, 0, none⟩)] rfl W2.heap.size rfl ?_; intro W3 R3 B3 z3; have st : Hid (StP W.heap.size W W2.heap.size W3) := hidIt ⟨_, _, _, _, _, _, si_new T1.out.1 T1.out.2 H2.out.1 H2.out.2.1 H2.out.2.2 R3 B3, rfl, T1.out.2.trans ((H2.out.2.1.trans (B3.mono H2.out.2.1.size)).mono T1.out.2.size)⟩; have p0 := (R3.cel 0 _ rfl).1; clear R3 B3 z3))
    obtain ⟨P, hP⟩ : ∃ P, P = W2.heap.size := ⟨_, rfl⟩
    rw [← hP] at st ⊢
    clear p0 T1 H2 c0 hP
    go_loopw [4] (fun i wr => ∃ k : Nat, k ≤ n ∧ i = .int .i64 (k : Int) ∧ Hid (StP W.heap.size W P wr)) (fun i _ => n - (RowKit.intOf i).toNat)
    case atStart => exact ⟨0, Nat.zero_le _, rfl, st⟩
    case round =>
      clear st
      obtain ⟨k, hk, rfl, hI⟩ := hrel
      by_cases hlt : k < n
      · obtain ⟨x, hx⟩ : ∃ x, acl[k]? = some x := ⟨_, List.getElem?_eq_getElem (by have := HN.out; omega)⟩
        obtain ⟨bl, o1, ha, hr1, l1⟩ := HL.out.2 k x hx
        subst ha
        obtain ⟨ka, kC, fk, hxk, ak⟩ := aa_of (HL.out.1 x (List.mem_of_getElem? hx)).1
        obtain ⟨va, vC, fv, hxv, av⟩ := aa_of (HL.out.1 x (List.mem_of_getElem? hx)).2
        obtain ⟨kn, hkn⟩ : ∃ kn, kn = x.tk.size := ⟨_, rfl⟩
        obtain ⟨vn, hvn⟩ : ∃ vn, vn = x.tv.size := ⟨_, rfl⟩
        rw [← hkn] at hxk ak
        rw [← hvn] at hxv av
        have AK := hidIt ak
        have AVv := hidIt av
        have CE : Hid (∀ w', Below W.heap.size W w' → w'.cell? ⟨bl, o1 + k * 4, none⟩ = some (.int .i64 x.kd) ∧ w'.cell? ⟨bl, o1 + k * 4 + 1, none⟩ = some (.int .i64 x.nn) ∧ w'.cell? ⟨bl, o1 + k * 4 + 2, none⟩ = some (.slice ka kn kC) ∧ w'.cell? ⟨bl, o1 + k * 4 + 3, none⟩ = some (.slice va vn vC)) := hidIt (fun U hU => by
          have e0 := (hU.cell (p := ⟨bl, o1 + k * 4 + 0, none⟩) l1).trans (hr1 0 _ rfl)
          have e1 := (hU.cell (p := ⟨bl, o1 + k * 4 + 1, none⟩) l1).trans (hr1 1 _ rfl)
          have e2 := (hU.cell (p := ⟨bl, o1 + k * 4 + 2, none⟩) l1).trans (hr1 2 _ rfl)
          have e3 := (hU.cell (p := ⟨bl, o1 + k * 4 + 3, none⟩) l1).trans (hr1 3 _ rfl)
          exact ⟨e0, e1, by rw [← hxk]; exact e2, by rw [← hxv]; exact e3⟩)
        have LT := hidIt hlt
        obtain ⟨i0, i1, i2, i3⟩ := m_ar k n hlt N100.out
        clear hx hr1 l1 hlt hk ak av hxk hxv hkn hvn
        obtain ⟨t, r, v, qs, lv, rs, sS, sE, sB⟩ := hI.out
        have S0 := hidIt sS
        have E0 := hidIt sB
        have HE := hidIt sE
        obtain ⟨c0, c1, c2, c3⟩ := CE.out _ sB
        have p0 := (sS.pr.cel 0 _ rfl).1
        clear sS sE sB
        by_cases h1 : 300 < (kn : Int)
        · have d1 : (300 < (kn : Int)) = True := eq_true h1
          clear h1
          go_wp2_with fail
          exact bodyPost_ret (v := .bool true) (by simp [results, Try.results3, go_sem]) rfl ⟨rfl, E0.out⟩
        · have d1 : (300 < (kn : Int)) = False := eq_false h1
          by_cases h2 : 300 < (vn : Int)
          · have d2 : (300 < (vn : Int)) = True := eq_true h2
            clear h1 h2
            go_wp2_with fail
            exact bodyPost_ret (v := .bool true) (by simp [results, Try.results3, go_sem]) rfl ⟨rfl, E0.out⟩
          · have d2 : (300 < (vn : Int)) = False := eq_false h2
            have A0 := hidIt (AK.out (by omega))
            have B0 := hidIt (AVv.out (by omega))
            clear h1 h2
            go_wp2_with (first
              | (go_at_call 11; refine (tall_ok S0.out.tab).mono ?_; rintro e W4 ⟨lw, os, rfl, g1, g2, g3, g4, hb⟩; obtain ⟨la, lc, hlw, _⟩ := g1.slice; subst hlw; have T4 := hidIt (Tld.of (base := wr.heap.size) g1 g2 g3 (Nat.le_refl _)); have B4 := hidIt hb; have F4 := hidIt (os_few g4 S0.out.tab.few); clear g1 g2 g3 g4 hb c0 c1 c2 c3 p0)
              | (go_at_call 12; refine (overPairs_any (base := wr.heap.size) (os := os) os.length lc rfl (by have := F4.out; omega) B4.out.size T4.out.over).mono ?_; rintro e W5 ⟨rfl, hb⟩; have S5 := hidIt (S0.out.more (B4.out.trans hb)); have E5 := hidIt (E0.out.trans ((B4.out.trans hb).mono S0.out.size)); clear hb T4 B4 F4))
            refine wp_region_noPanic ?_
            refine wp_region_held_drew (S := fun w' => w'.cell? ⟨bl, o1 + k * 4, none⟩ = some (.int .i64 x.kd) ∧ w'.cell? ⟨bl, o1 + k * 4 + 1, none⟩ = some (.int .i64 x.nn) ∧ w'.cell? ⟨bl, o1 + k * 4 + 2, none⟩ = some (.slice ka kn kC) ∧ w'.cell? ⟨bl, o1 + k * 4 + 3, none⟩ = some (.slice va vn vC)) (by kernel_rfl) ?_ (fun hHeld => ?_)
            · exact CE.out _ E5.out.drew
            have eD : Below W.heap.size W W5.drew := E5.out.drew
            have zD : Below W5.heap.size W5 W5.drew := (Below.refl _ _).drew
            refine take_at (i := 0) (v := ?_) (some 58) rfl rfl (by kernel_rfl) (by kernel_rfl) (by kernel_rfl) (fun _ _ _ h => h) (Or.inl ⟨by rfl, ?_⟩) (by assumption) ?_
            rotate_left
            · (intro w hSw; (try dsimp only at hSw); go_simp; try with_reducible rfl)
            simp only [Act.put, List.setIfInBounds_toArray, List.set_cons_zero, List.set_cons_succ]
            refine take_at (i := 1) (v := ?_) (some 59) rfl rfl (by kernel_rfl) (by kernel_rfl) (by kernel_rfl) (fun _ _ _ h => h) (Or.inl ⟨by rfl, ?_⟩) (by assumption) ?_
            rotate_left
            · (intro w hSw; (try dsimp only at hSw); go_simp; try with_reducible rfl)
            simp only [Act.put, List.setIfInBounds_toArray, List.set_cons_zero, List.set_cons_succ]
            refine take_at (i := 2) (v := ?_) (some 60) rfl rfl (by kernel_rfl) (by kernel_rfl) (by kernel_rfl) (fun _ _ _ h => h) (Or.inl ⟨by rfl, ?_⟩) (by assumption) ?_
            rotate_left
            · (intro w hSw; (try dsimp only at hSw); go_simp; try with_reducible rfl)
            simp only [Act.put, List.setIfInBounds_toArray, List.set_cons_zero, List.set_cons_succ]
            refine take_at (i := 3) (v := ?_) (some 61) rfl rfl (by kernel_rfl) (by kernel_rfl) (by kernel_rfl) (fun _ _ _ h => h) (Or.inl ⟨by rfl, ?_⟩) (by assumption) ?_
            rotate_left
            · (intro w hSw; (try dsimp only at hSw); go_simp; try with_reducible rfl)
            simp only [Act.put, List.setIfInBounds_toArray, List.set_cons_zero, List.set_cons_succ]
            refine take_at (i := 4) (v := ?_) (some 62) rfl rfl (by kernel_rfl) (by kernel_rfl) (by kernel_rfl) (fun _ _ _ h => h) (Or.inl ⟨by rfl, ?_⟩) (by assumption) ?_
            rotate_left
            · (intro w hSw; (try dsimp only at hSw); go_simp; try with_reducible rfl)
            simp only [Act.put, List.setIfInBounds_toArray, List.set_cons_zero, List.set_cons_succ]
            refine call_at (i := 5) (some 63) 13 _ _ rfl rfl rfl (by rfl) (by kernel_rfl) #[.pointer (some ⟨P, 0, none⟩), .agg (actC x.kd x.nn ka va kn vn kC vC).toArray] rfl Try.func13 (by kernel_rfl) (by kernel_rfl) ?_
            refine (act_any (S5.out.more zD) HE.out x.kd x.nn ka va kn vn kC vC fk fv (A0.out.below eD) (B0.out.below eD)).mono ?_
            rintro e W6 ⟨rfl, t2, r2, v2, qs2, lv2, rs2, s6, e6, b6⟩
            have E6 := hidIt (eD.trans b6)
            have S6 := hidIt s6
            have Q6 := hidIt e6
            obtain ⟨ra, rC, hlv, _⟩ := s6.ref.lst
            have hll : qs2.length = rs2.length := by simpa using (congrArg List.length e6).symm
            obtain ⟨n1, hn1⟩ : ∃ n1, n1 = rs2.length := ⟨_, rfl⟩
            rw [← hn1] at hlv hll
            subst hlv
            have N1 := hidIt (And.intro hn1 hll)
            have SS : Hid (∀ U, Below W6.heap.size W6 U → SI W.heap.size U P t2 r2 v2 qs2 (.slice ra n1 rC) rs2) := hidIt (fun U hU => s6.more hU)
            have CF : Hid (∀ w', Below W6.heap.size W6 w' → (w'.cell? ⟨bl, o1 + k * 4, none⟩ = some (.int .i64 x.kd) ∧ w'.cell? ⟨bl, o1 + k * 4 + 1, none⟩ = some (.int .i64 x.nn) ∧ w'.cell? ⟨bl, o1 + k * 4 + 2, none⟩ = some (.slice ka kn kC) ∧ w'.cell? ⟨bl, o1 + k * 4 + 3, none⟩ = some (.slice va vn vC)) ∧ w'.cell? ⟨P, 0, none⟩ = some (.pointer (some ⟨t2, 0, none⟩)) ∧ w'.cell? ⟨P, 1, none⟩ = some (.pointer (some ⟨r2, 0, none⟩)) ∧ w'.cell? ⟨r2, 0, none⟩ = some (.slice ra n1 rC)) := hidIt (fun U hU => ⟨CE.out U (E6.out.trans (hU.mono E6.out.size)), ((SS.out U hU).pr.cel 0 _ rfl).1, ((SS.out U hU).pr.cel 1 _ rfl).1, ((SS.out U hU).ref.rc.cel 0 _ rfl).1⟩)
            refine ⟨_, rfl, CE.out _ E6.out, fun hHeld => ?_⟩
            clear hHeld s6 e6 b6 eD zD hn1
            refine anyH_S (S' := fun w' => (w'.cell? ⟨bl, o1 + k * 4, none⟩ = some (.int .i64 x.kd) ∧ w'.cell? ⟨bl, o1 + k * 4 + 1, none⟩ = some (.int .i64 x.nn) ∧ w'.cell? ⟨bl, o1 + k * 4 + 2, none⟩ = some (.slice ka kn kC) ∧ w'.cell? ⟨bl, o1 + k * 4 + 3, none⟩ = some (.slice va vn vC)) ∧ w'.cell? ⟨P, 0, none⟩ = some (.pointer (some ⟨t2, 0, none⟩)) ∧ w'.cell? ⟨P, 1, none⟩ = some (.pointer (some ⟨r2, 0, none⟩)) ∧ w'.cell? ⟨r2, 0, none⟩ = some (.slice ra n1 rC)) (fun w h => h.1) _ _ _ _ ?_
            have hHeld := CF.out W6 (Below.refl _ _)
            simp only [Act.put, List.setIfInBounds_toArray, List.set_cons_zero, List.set_cons_succ]
            refine take_at (i := 6) (v := ?_) (some 64) rfl rfl (by kernel_rfl) (by kernel_rfl) (by kernel_rfl) (fun _ _ _ h => h) (Or.inl ⟨by rfl, ?_⟩) (by assumption) ?_
            rotate_left
            · (intro w hSw; (try dsimp only at hSw); go_simp; try with_reducible rfl)
            simp only [Act.put, List.setIfInBounds_toArray, List.set_cons_zero, List.set_cons_succ]
            refine take_at (i := 7) (v := ?_) (some 65) rfl rfl (by kernel_rfl) (by kernel_rfl) (by kernel_rfl) (fun _ _ _ h => h) (Or.inl ⟨by rfl, ?_⟩) (by assumption) ?_
            rotate_left
            · (intro w hSw; (try dsimp only at hSw); go_simp; try with_reducible rfl)
            simp only [Act.put, List.setIfInBounds_toArray, List.set_cons_zero, List.set_cons_succ]
            refine take_at (i := 8) (v := ?_) (some 66) rfl rfl (by kernel_rfl) (by kernel_rfl) (by kernel_rfl) (fun _ _ _ h => h) (Or.inl ⟨by rfl, ?_⟩) (by assumption) ?_
            rotate_left
            · (intro w hSw; (try dsimp only at hSw); go_simp; try with_reducible rfl)
            simp only [Act.put, List.setIfInBounds_toArray, List.set_cons_zero, List.set_cons_succ]
            refine take_at (i := 9) (v := ?_) (some 67) rfl rfl (by kernel_rfl) (by kernel_rfl) (by kernel_rfl) (fun _ _ _ h => h) (Or.inl ⟨by rfl, ?_⟩) (by assumption) ?_
            rotate_left
            · (intro w hSw; (try dsimp only at hSw); go_simp; try with_reducible rfl)
            simp only [Act.put, List.setIfInBounds_toArray, List.set_cons_zero, List.set_cons_succ]
            refine take_at (i := 10) (v := ?_) (some 68) rfl rfl (by kernel_rfl) (by kernel_rfl) (by kernel_rfl) (fun _ _ _ h => h) (Or.inl ⟨by rfl, ?_⟩) (by assumption) ?_
            rotate_left
            · (intro w hSw; (try dsimp only at hSw); go_simp; try with_reducible rfl)
            simp only [Act.put, List.setIfInBounds_toArray, List.set_cons_zero, List.set_cons_succ]
            refine take_at (i := 11) (v := ?_) (some 69) rfl rfl (by kernel_rfl) (by kernel_rfl) (by kernel_rfl) (fun _ _ _ h => h) (Or.inl ⟨by rfl, ?_⟩) (by assumption) ?_
            rotate_left
            · (intro w hSw; (try dsimp only at hSw); go_simp; try with_reducible rfl)
            simp only [Act.put, List.setIfInBounds_toArray, List.set_cons_zero, List.set_cons_succ]
            refine take_at (i := 13) (v := ?_) (some 71) rfl rfl (by kernel_rfl) (by kernel_rfl) (by kernel_rfl) (fun _ _ _ h => h) (Or.inl ⟨by rfl, ?_⟩) (by assumption) ?_
            rotate_left
            · (intro w hSw; (try dsimp only at hSw); go_simp; try with_reducible rfl)
            simp only [Act.put, List.setIfInBounds_toArray, List.set_cons_zero, List.set_cons_succ]
            refine take_at (i := 14) (v := ?_) (some 72) rfl rfl (by kernel_rfl) (by kernel_rfl) (by kernel_rfl) (fun _ _ _ h => h) (Or.inl ⟨by rfl, ?_⟩) (by assumption) ?_
            rotate_left
            · (intro w hSw; (try dsimp only at hSw); go_simp; try with_reducible rfl)
            simp only [Act.put, List.setIfInBounds_toArray, List.set_cons_zero, List.set_cons_succ]
            refine take_at (i := 15) (v := ?_) (some 73) rfl rfl (by kernel_rfl) (by kernel_rfl) (by kernel_rfl) (fun _ _ _ h => h) (Or.inl ⟨by rfl, ?_⟩) (by assumption) ?_
            rotate_left
            · (intro w hSw; (try dsimp only at hSw); go_simp; try with_reducible rfl)
            simp only [Act.put, List.setIfInBounds_toArray, List.set_cons_zero, List.set_cons_succ]
            refine take_at (i := 16) (v := ?_) (some 74) rfl rfl (by kernel_rfl) (by kernel_rfl) (by kernel_rfl) (fun _ _ _ h => h) (Or.inl ⟨by rfl, ?_⟩) (by assumption) ?_
            rotate_left
            · (intro w hSw; (try dsimp only at hSw); go_simp; try with_reducible rfl)
            simp only [Act.put, List.setIfInBounds_toArray, List.set_cons_zero, List.set_cons_succ]
            refine take_at (i := 17) (v := ?_) (some 75) rfl rfl (by kernel_rfl) (by kernel_rfl) (by kernel_rfl) (fun _ _ _ h => h) (Or.inl ⟨by rfl, ?_⟩) (by assumption) ?_
            rotate_left
            · (intro w hSw; (try dsimp only at hSw); go_simp; try with_reducible rfl)
            simp only [Act.put, List.setIfInBounds_toArray, List.set_cons_zero, List.set_cons_succ]
            refine take_at (i := 18) (v := ?_) (some 76) rfl rfl (by kernel_rfl) (by kernel_rfl) (by kernel_rfl) (fun _ _ _ h => h) (Or.inl ⟨by rfl, ?_⟩) (by assumption) ?_
            rotate_left
            · (intro w hSw; (try dsimp only at hSw); go_simp; try with_reducible rfl)
            simp only [Act.put, List.setIfInBounds_toArray, List.set_cons_zero, List.set_cons_succ]
            refine take_at (i := 19) (v := ?_) (some 77) rfl rfl (by kernel_rfl) (by kernel_rfl) (by kernel_rfl) (fun _ _ _ h => h) (Or.inl ⟨by rfl, ?_⟩) (by assumption) ?_
            rotate_left
            · (intro w hSw; (try dsimp only at hSw); go_simp; try with_reducible rfl)
            simp only [Act.put, List.setIfInBounds_toArray, List.set_cons_zero, List.set_cons_succ]
            refine call_at (i := 12) (some 70) 11 _ _ rfl rfl rfl (by rfl) (by kernel_rfl) #[.pointer (some ⟨t2, 0, none⟩)] rfl Try.func11 (by kernel_rfl) (by kernel_rfl) ?_
            refine (tall_ok S6.out.tab).mono ?_
            rintro e W7 ⟨lw, os, rfl, g1, g2, g3, g4, b7⟩
            obtain ⟨la, lc, hlw, hL7⟩ := BtwPost.lst g1 (fun x hx => (g3 x hx).2)
            subst hlw
            have OM : os.map PV.p = rs2.map PV.p := by rw [g4, btw_eq _ _ _ S6.out.tab.srt, btw_all _ _ _ rfl rfl, Q6.out]
            have FO := os_few g4 S6.out.tab.few
            refine ⟨_, rfl, CF.out _ b7, fun hHeld => ?_⟩
            simp only [Act.put, List.setIfInBounds_toArray, List.set_cons_zero, List.set_cons_succ]
            refine call_at (i := 20) (some 78) 14 _ _ rfl rfl rfl (by rfl) (by kernel_rfl) #[.slice la os.length lc, .slice ra n1 rC] rfl Try.func14 (by kernel_rfl) (by kernel_rfl) ?_
            refine (samePairs_any os.length n1 lc rC rfl N1.out.1.symm hL7 (OwnP.lst (SS.out _ b7).ref.own (fun x hx => ((SS.out _ b7).ref.ok x hx).mono (fun b hb => by cases hb))) (by omega)).mono ?_
            rintro e W8 ⟨h1, b8⟩
            have h2 : e = .returned (.bool true) := by rw [h1, decide_eq_true OM]
            subst h2
            have z8 : Below W6.heap.size W6 W8 := b7.trans (b8.mono b7.size)
            refine ⟨_, rfl, CF.out _ z8, fun hHeld => ?_⟩
            simp only [Act.put, List.setIfInBounds_toArray, List.set_cons_zero, List.set_cons_succ]
            refine take_at (i := 21) (v := ?_) (some 79) rfl rfl (by kernel_rfl) (by kernel_rfl) (by kernel_rfl) (fun _ _ _ h => h) (Or.inl ⟨by rfl, ?_⟩) (by assumption) ?_
            rotate_left
            · (intro w hSw; (try dsimp only at hSw); go_simp; try with_reducible rfl)
            simp only [Act.put, List.setIfInBounds_toArray, List.set_cons_zero, List.set_cons_succ]
            refine take_at (i := 22) (v := ?_) (some 80) rfl rfl (by kernel_rfl) (by kernel_rfl) (by kernel_rfl) (fun _ _ _ h => h) (Or.inl ⟨by rfl, ?_⟩) (by assumption) ?_
            rotate_left
            · (intro w hSw; (try dsimp only at hSw); go_simp; try with_reducible rfl)
            simp only [Act.put, List.setIfInBounds_toArray, List.set_cons_zero, List.set_cons_succ]
            refine take_at (i := 23) (v := ?_) (some 81) rfl rfl (by kernel_rfl) (by kernel_rfl) (by kernel_rfl) (fun _ _ _ h => h) (Or.inl ⟨by rfl, ?_⟩) (by assumption) ?_
            rotate_left
            · (intro w hSw; (try dsimp only at hSw); go_simp; try with_reducible rfl)
            simp only [Act.put, List.setIfInBounds_toArray, List.set_cons_zero, List.set_cons_succ]
            refine take_at (i := 24) (v := ?_) (some 82) rfl rfl (by kernel_rfl) (by kernel_rfl) (by kernel_rfl) (fun _ _ _ h => h) (Or.inl ⟨by rfl, ?_⟩) (by assumption) ?_
            rotate_left
            · (intro w hSw; (try dsimp only at hSw); go_simp; try with_reducible rfl)
            simp only [Act.put, List.setIfInBounds_toArray, List.set_cons_zero, List.set_cons_succ]
            refine take_at (i := 25) (v := ?_) (some 83) rfl rfl (by kernel_rfl) (by kernel_rfl) (by kernel_rfl) (fun _ _ _ h => h) (Or.inl ⟨by rfl, ?_⟩) (by assumption) ?_
            rotate_left
            · (intro w hSw; (try dsimp only at hSw); go_simp; try with_reducible rfl)
            simp only [Act.put, List.setIfInBounds_toArray, List.set_cons_zero, List.set_cons_succ]
            refine take_at (i := 26) (v := ?_) (some 84) rfl rfl (by kernel_rfl) (by kernel_rfl) (by kernel_rfl) (fun _ _ _ h => h) (Or.inl ⟨by rfl, ?_⟩) (by assumption) ?_
            rotate_left
            · (intro w hSw; (try dsimp only at hSw); go_simp; try with_reducible rfl)
            simp only [Act.put, List.setIfInBounds_toArray, List.set_cons_zero, List.set_cons_succ]
            refine take_at (i := 27) (v := ?_) (some 85) rfl rfl (by kernel_rfl) (by kernel_rfl) (by kernel_rfl) (fun _ _ _ h => h) (Or.inl ⟨by rfl, ?_⟩) (by assumption) ?_
            rotate_left
            · (intro w hSw; (try dsimp only at hSw); go_simp; try with_reducible rfl)
            simp only [Act.put, List.setIfInBounds_toArray, List.set_cons_zero, List.set_cons_succ]
            refine take_at (i := 29) (v := ?_) (some 87) rfl rfl (by kernel_rfl) (by kernel_rfl) (by kernel_rfl) (fun _ _ _ h => h) (Or.inl ⟨by rfl, ?_⟩) (by assumption) ?_
            rotate_left
            · (intro w hSw; (try dsimp only at hSw); go_simp; try with_reducible rfl)
            simp only [Act.put, List.setIfInBounds_toArray, List.set_cons_zero, List.set_cons_succ]
            refine take_at (i := 30) (v := ?_) (some 88) rfl rfl (by kernel_rfl) (by kernel_rfl) (by kernel_rfl) (fun _ _ _ h => h) (Or.inl ⟨by rfl, ?_⟩) (by assumption) ?_
            rotate_left
            · (intro w hSw; (try dsimp only at hSw); go_simp; try with_reducible rfl)
            simp only [Act.put, List.setIfInBounds_toArray, List.set_cons_zero, List.set_cons_succ]
            refine take_at (i := 31) (v := ?_) (some 89) rfl rfl (by kernel_rfl) (by kernel_rfl) (by kernel_rfl) (fun _ _ _ h => h) (Or.inl ⟨by rfl, ?_⟩) (by assumption) ?_
            rotate_left
            · (intro w hSw; (try dsimp only at hSw); go_simp; try with_reducible rfl)
            simp only [Act.put, List.setIfInBounds_toArray, List.set_cons_zero, List.set_cons_succ]
            refine take_at (i := 32) (v := ?_) (some 90) rfl rfl (by kernel_rfl) (by kernel_rfl) (by kernel_rfl) (fun _ _ _ h => h) (Or.inl ⟨by rfl, ?_⟩) (by assumption) ?_
            rotate_left
            · (intro w hSw; (try dsimp only at hSw); go_simp; try with_reducible rfl)
            simp only [Act.put, List.setIfInBounds_toArray, List.set_cons_zero, List.set_cons_succ]
            refine take_at (i := 33) (v := ?_) (some 91) rfl rfl (by kernel_rfl) (by kernel_rfl) (by kernel_rfl) (fun _ _ _ h => h) (Or.inl ⟨by rfl, ?_⟩) (by assumption) ?_
            rotate_left
            · (intro w hSw; (try dsimp only at hSw); go_simp; try with_reducible rfl)
            simp only [Act.put, List.setIfInBounds_toArray, List.set_cons_zero, List.set_cons_succ]
            refine take_at (i := 34) (v := ?_) (some 92) rfl rfl (by kernel_rfl) (by kernel_rfl) (by kernel_rfl) (fun _ _ _ h => h) (Or.inl ⟨by rfl, ?_⟩) (by assumption) ?_
            rotate_left
            · (intro w hSw; (try dsimp only at hSw); go_simp; try with_reducible rfl)
            simp only [Act.put, List.setIfInBounds_toArray, List.set_cons_zero, List.set_cons_succ]
            refine take_at (i := 35) (v := ?_) (some 93) rfl rfl (by kernel_rfl) (by kernel_rfl) (by kernel_rfl) (fun _ _ _ h => h) (Or.inl ⟨by rfl, ?_⟩) (by assumption) ?_
            rotate_left
            · (intro w hSw; (try dsimp only at hSw); go_simp; try with_reducible rfl)
            simp only [Act.put, List.setIfInBounds_toArray, List.set_cons_zero, List.set_cons_succ]
            refine take_at (i := 36) (v := ?_) (some 94) rfl rfl (by kernel_rfl) (by kernel_rfl) (by kernel_rfl) (fun _ _ _ h => h) (Or.inl ⟨by rfl, ?_⟩) (by assumption) ?_
            rotate_left
            · (intro w hSw; (try dsimp only at hSw); go_simp; try with_reducible rfl)
            simp only [Act.put, List.setIfInBounds_toArray, List.set_cons_zero, List.set_cons_succ]
            refine call_at (i := 28) (some 86) 15 _ _ rfl rfl rfl (by rfl) (by kernel_rfl) #[.pointer (some ⟨t2, 0, none⟩)] rfl Try.func15 (by kernel_rfl) (by kernel_rfl) ?_
            refine (tsize_ok (SS.out _ z8).tab).mono ?_
            rintro e W9 ⟨rfl, hw⟩
            rw [hw, N1.out.2]
            clear hw
            refine ⟨_, rfl, CF.out _ z8, fun hHeld => ?_⟩
            simp only [Act.put, List.setIfInBounds_toArray, List.set_cons_zero, List.set_cons_succ]
            refine take_at (i := 37) (v := ?_) (some 95) rfl rfl (by kernel_rfl) (by kernel_rfl) (by kernel_rfl) (fun _ _ _ h => h) (Or.inl ⟨by rfl, ?_⟩) (by assumption) ?_
            rotate_left
            · (intro w hSw; (try dsimp only at hSw); go_simp; try with_reducible rfl)
            simp only [Act.put, List.setIfInBounds_toArray, List.set_cons_zero, List.set_cons_succ]
            refine take_at (i := 38) (v := ?_) (some 96) rfl rfl (by kernel_rfl) (by kernel_rfl) (by kernel_rfl) (fun _ _ _ h => h) (Or.inl ⟨by rfl, ?_⟩) (by assumption) ?_
            rotate_left
            · (intro w hSw; (try dsimp only at hSw); go_simp; try with_reducible rfl)
            simp only [Act.put, List.setIfInBounds_toArray, List.set_cons_zero, List.set_cons_succ]
            refine wpAnyH_done (by kernel_rfl) ?_ _
            refine NoPanic.normal ?_
            have FIN : Hid (StP W.heap.size W P W8) := hidIt ⟨_, _, _, _, _, _, SS.out _ z8, Q6.out, E6.out.trans (z8.mono E6.out.size)⟩
            clear hHeld h1 b8 z8 b7 g1 g2 g3 g4 OM FO hL7
            go_wp2_with fail
            exact ⟨⟨k + 1, LT.out, rfl, FIN⟩, meas_k n k _ rfl LT.out⟩
      · have i0 : ((k : Int) < (n : Int)) = False := eq_false (by omega)
        obtain ⟨t, r, v, qs, lv, rs, _, _, sB⟩ := hI.out
        have E0 := hidIt sB
        clear hlt hk sB
        go_wp2_with (go_at_call 10; refine (awake_any wr).mono ?_; rintro e W4 ⟨rfl, hb⟩; have E4 := hidIt (E0.out.trans (hb.mono E0.out.size)); clear hb)
        exact bodyPost_ret (v := .bool true) (by simp [results, Try.results3, go_sem]) rfl ⟨rfl, E4.out⟩
end Go.Proofs.Ytandkedipjmdbaa
