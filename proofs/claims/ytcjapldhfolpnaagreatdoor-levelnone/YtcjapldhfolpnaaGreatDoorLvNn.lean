/-
  Walks, not a claim by itself: the law of a grid that nobody made. By the verifier.
-/
import Derived.Test.YtcjapldhfolpnaaGreatDoorLvAk
import Derived.Test.YtcjapldhfolpnaaGreatDoorINr
namespace Go.Proofs.YtcjapldhfolpnaaGreatDoor
open Go.RowKit
attribute [-go_sem] Builtin.append_
theorem zero_gbi : (Tryz.prog.info? 195).map (·.size) = some zgb.length := by kernel_rfl
set_option maxRecDepth 100000 in
theorem lnone_any (W : World) (p : Option Addr) (h : NoG W p) : Calls Tryz.prog 51 #[.pointer p] W fun e w' => e = .returned (.bool true) ∧ Below W.heap.size W w' := by
  have H := hidIt h
  clear h
  go_enter Tryz.func51, Tryz.ntmps51
  go_wp2_with (first
    | (refine wpList_build_to rfl 108 #[] rfl (twoR 0 0).toArray (by kernel_rfl) ?_)
    | (go_at_call 114; refine (gread_none W p 0 0 H.out).mono ?_; rintro e W1 ⟨rfl, hb⟩; have B1 := hidIt hb; clear hb)
    | (refine wpList_alloc_rec rfl 195 rfl zgb W1.heap.size rfl zero_gb ?_; intro W2 R2 B2 z2; have E2 := hidIt (And.intro B2 z2); have P2 := hidIt R2; clear R2 B2 z2)
    | (refine wpList_store_rec rfl 195 (.tmp 3) (.tmp 9) rfl W1.heap.size 0 _ zgb rfl rfl P2.out rfl zero_gbi zgb_one ?_; intro W3 R3 B3; have E3 := hidIt (B1.out.trans ((E2.out.1.trans (B3.below (Nat.le_refl _) (by have := E2.out.2; omega))).mono B1.out.size)); clear R3 B3))
  exact bodyPost_ret (v := .bool true) (by simp [results, Tryz.results51, go_sem]) rfl ⟨rfl, E3.out⟩
set_option maxRecDepth 100000 in
theorem lstep_none (W : World) (p : Option Addr) (h : NoG W p) : Calls Tryz.prog 13 #[.pointer p, .slice none 0 0, .int .i64 0] W fun e w' => e = .returned (.tuple #[.slice none 0 0, .bool false, .int .i64 1]) ∧ Below W.heap.size W w' := by
  have H := hidIt h
  clear h
  go_enter Tryz.func13, Tryz.ntmps13
  go_wp2_with (go_at_call 51; refine (lnone_any W p H.out).mono ?_; rintro e W1 ⟨rfl, hb⟩; have B1 := hidIt hb; clear hb)
  exact bodyPost_ret (v := .tuple #[.slice none 0 0, .bool false, .int .i64 1]) (by simp [results, Tryz.results13, go_sem]) rfl ⟨rfl, B1.out⟩
set_option maxRecDepth 100000 in
theorem llists_none (W : World) (p : Option Addr) (a : Option Addr) (n C : Nat) (h : NoG W p) : Calls Tryz.prog 15 #[.pointer p, .slice none 0 0, .slice a n C, .slice none 0 0] W fun e w' => e = .returned (.tuple #[.slice none 0 0, .int .i64 1]) ∧ Below W.heap.size W w' := by
  have H := hidIt h
  clear h
  go_enter Tryz.func15, Tryz.ntmps15
  go_wp2_with (go_at_call 51; refine (lnone_any W p H.out).mono ?_; rintro e W1 ⟨rfl, hb⟩; have B1 := hidIt hb; clear hb)
  exact bodyPost_ret (v := .tuple #[.slice none 0 0, .int .i64 1]) (by simp [results, Tryz.results15, go_sem]) rfl ⟨rfl, B1.out⟩
def zpr : List Value := [.slice none 0 0, .slice none 0 0, .bool false]
theorem zpr_one : ∀ v ∈ zpr, v.oneCell' = true := by
  intro v hv
  simp only [zpr, List.mem_cons, List.not_mem_nil, or_false] at hv
  rcases hv with rfl | rfl | rfl <;> rfl
theorem zero_pr : (Tryz.prog.info? 62).bind (·.zero) = some (.agg zpr.toArray) := by kernel_rfl
theorem zpr_size : (Tryz.prog.info? 62).map (·.size) = some zpr.length := by kernel_rfl
set_option maxRecDepth 100000 in
theorem lget_none (W : World) (p : Option Addr) (a : Option Addr) (n C : Nat) (h : NoG W p) : Calls Tryz.prog 14 #[.pointer p, .slice none 0 0, .slice a n C] W fun e w' => e = .returned (.tuple #[.agg zpr.toArray, .int .i64 1]) ∧ Below W.heap.size W w' := by
  have H := hidIt h
  clear h
  go_enter Tryz.func14, Tryz.ntmps14
  go_wp2_with (first
    | (refine wpList_alloc_rec rfl 62 rfl zpr (W.heap.size + 1 + 1) (by simp) zero_pr ?_; intro W3 R3 B3 z3; have P3 := hidIt R3; have E3 : Hid (Below W.heap.size W W3) := hidIt ((((Below.refl W.heap.size W).alloc (Nat.le_refl _) _).alloc (by simp) _).trans (B3.mono (by omega))); have Z3 := hidIt z3; have c0 : W3.cell? ⟨W.heap.size, 0, none⟩ = some (.pointer p) := ((B3.cell (p := ⟨W.heap.size, 0, none⟩) (by show W.heap.size < _; omega)).trans (by simp [go_sem])); have c0' : (W3.alloc (.cells #[.int .i64 0] 26)).cell? ⟨W.heap.size, 0, none⟩ = some (.pointer p) := (((Below.refl W3.heap.size W3).alloc (Nat.le_refl _) _).cell (p := ⟨W.heap.size, 0, none⟩) (by show W.heap.size < _; omega)).trans c0; clear R3 B3 z3 c0)
    | (go_at_call 51; refine (lnone_any _ p (H.out.below ((E3.out.alloc E3.out.size _)))).mono ?_; rintro e W5 ⟨rfl, hb⟩; have Q7 : Hid (Rec19 W5 W3.heap.size 0 [.int .i64 0]) := hidIt ((Rec19.new W3 26 [.int .i64 0] : Rec19 (W3.alloc (.cells #[.int .i64 0] 26)) W3.heap.size 0 [.int .i64 0]).below hb); have P5 := hidIt ((P3.out.below ((Below.refl _ _).alloc (Nat.le_refl _) _)).below hb); have E5 := hidIt ((E3.out.alloc E3.out.size _).trans (hb.mono (Nat.le_trans E3.out.size (by simp)))); have S5 : Hid (W3.heap.size < W5.heap.size) := hidIt (by have := hb.size; simp at this; omega); clear hb)
    | (refine wpList_build_to rfl 62 #[] rfl zpr.toArray (by kernel_rfl) ?_)
    | (refine wpList_store_rec rfl 62 (.tmp 6) (.tmp 14) rfl (W.heap.size + 1 + 1) 0 _ zpr rfl rfl P5.out rfl zpr_size zpr_one ?_; intro W6 R6 B6; have P6 := hidIt R6; have Q8 := hidIt (Q7.out.but B6 (by have := Z3.out; omega)); have q8 := (Q8.out.cel 0 _ rfl).1; have q9 := (Q8.out.cel 0 _ rfl).2; have E6 := hidIt (E5.out.trans (B6.below (by omega) E5.out.size)); clear R6 B6))
  have B7 := But.set (b := W3.heap.size) W6 0 (.int .i64 1)
  have P7 := P6.out.but B7 (by have := Z3.out; omega)
  have R7 := Q8.out.putR 0 (.int .i64 1) (by simp)
  have E7 : Below W.heap.size W _ := E6.out.trans (B7.below (by have := Z3.out; omega) E6.out.size)
  have p0 := (P7.cel 0 _ rfl).1
  have p1 := (P7.cel 1 _ rfl).1
  have p2 := (P7.cel 2 _ rfl).1
  have hc := (R7.cel 0 _ rfl).1
  exact bodyPost_ret (v := .tuple #[.agg zpr.toArray, .int .i64 1]) (by simp [results, Tryz.results14, p0, p1, p2, hc, zpr, go_sem]) rfl ⟨rfl, E7⟩
/-- What holds at the head of the loop: the grids are none. -/
def lnR (W : World) (b : Nat) (wr : World) : Prop := Below W.heap.size W wr ∧ W.heap.size ≤ b ∧ (∀ k, k < 2 → ∃ p, wr.cell? ⟨b, k, none⟩ = some (.pointer p) ∧ NoG wr p) ∧ b < wr.heap.size
theorem lnR.below {W wr w' : World} {b : Nat} (h : lnR W b wr) (hB : Below wr.heap.size wr w') : lnR W b w' :=
  ⟨h.1.trans (hB.mono h.1.size), h.2.1, fun k hk => by obtain ⟨p, h1, h2⟩ := h.2.2.1 k hk; exact ⟨p, (hB.cell (p := ⟨b, k, none⟩) h.2.2.2).trans h1, h2.below hB⟩, Nat.lt_of_lt_of_le h.2.2.2 hB.size⟩
set_option maxRecDepth 100000 in
set_option maxHeartbeats 2000000 in
theorem lvnone_any (W : World) (a : Option Addr) (n C : Nat) : Calls Tryz.prog 4 #[.slice a n C] W fun e w' => e = .returned (.bool true) ∧ Below W.heap.size W w' := by
  by_cases hn : 200 < n
  · have c1 : (200 < (n : Int)) = True := eq_true (by omega)
    have c1' : (200 < n) = True := eq_true hn
    clear hn
    go_enter Tryz.func4, Tryz.ntmps4
    go_wp2_with (go_at_call 12; refine (lawake_any W).mono ?_; rintro e W1 ⟨rfl, hb⟩; have B1 := hidIt hb; clear hb)
    exact bodyPost_ret (v := .bool true) (by simp [results, Tryz.results4, go_sem]) rfl ⟨rfl, B1.out⟩
  · have c1 : (200 < (n : Int)) = False := eq_false (by omega)
    have c1' : (200 < n) = False := eq_false hn
    clear hn
    go_enter Tryz.func4, Tryz.ntmps4
    go_wp2_with fail
    go_loopw [4] (fun iv wr => ∃ k : Nat, k ≤ 2 ∧ iv = .int .i64 (k : Int) ∧ Hid (lnR W (W.heap.size + 1) wr)) (fun iv _ => 2 - (RowKit.intOf iv).toNat)
    case atStart =>
      refine ⟨0, by omega, rfl, hidIt ⟨((Below.refl W.heap.size W).alloc (Nat.le_refl _) _).alloc (by simp) _, by omega, ?_, by simp⟩⟩
      intro k hk
      match k, hk with
      | 0, _ => exact ⟨none, by simp [go_sem], .inl rfl⟩
      | 1, _ => exact ⟨some ⟨W.heap.size, 0, none⟩, by simp [go_sem], .inr ⟨W.heap.size, rfl, by simp [go_sem], by simp; omega⟩⟩
    case round =>
      obtain ⟨k, hk, rfl, HR⟩ := hrel
      have hk3 : k = 0 ∨ k = 1 ∨ k = 2 := by omega
      clear hk
      rcases hk3 with rfl | rfl | rfl
      · have hsz := hidIt HR.out.2.2.2
        obtain ⟨p, ck, hp⟩ := HR.out.2.2.1 0 (by omega)
        have hno := hidIt hp
        clear hp
        go_wp2_with (first
          | (go_at_call 13; refine (lstep_none _ p hno.out).mono ?_; rintro e W1 ⟨rfl, hb⟩; have HR1 := hidIt (HR.out.below hb); have S1 := hidIt HR1.out.2.2.2; have N1 := hidIt (hno.out.below hb); have ck1 := (hb.cell (p := ⟨W.heap.size + 1, 0, none⟩) hsz.out).trans ck; clear hb ck)
          | (go_at_call 14; refine (lget_none _ p a n C N1.out).mono ?_; rintro e W2 ⟨rfl, hb⟩; have HR2 := hidIt (HR1.out.below hb); have S2 := hidIt HR2.out.2.2.2; have N2 := hidIt (N1.out.below hb); have ck2 := (hb.cell (p := ⟨W.heap.size + 1, 0, none⟩) S1.out).trans ck1; clear hb ck1)
          | (refine wpList_alloc_rec rfl 62 rfl zpr W2.heap.size rfl zero_pr ?_; intro W3 R3 B3 z3; have P3 := hidIt R3; have B3' := hidIt B3; have Z3 := hidIt z3; clear R3 B3 z3)
          | (refine wpList_store_rec rfl 62 (.tmp 8) (.tmp 41) rfl W2.heap.size 0 _ zpr rfl rfl P3.out rfl zpr_size zpr_one ?_; intro W4 R4 B4; have HB := B3'.out.trans (B4.below (Nat.le_refl _) (by have := Z3.out; omega)); have HR4 := hidIt (HR2.out.below HB); have N4 := hidIt (N2.out.below HB); have ck4 := (HB.cell (p := ⟨W.heap.size + 1, 0, none⟩) S2.out).trans ck2; clear R4 B4 HB ck2)
          | (go_at_call 15; refine (llists_none _ p a n C N4.out).mono ?_; rintro e W5 ⟨rfl, hb⟩; have HR5 := hidIt (HR4.out.below hb); clear hb))
        go_roundw
        case rel => exact ⟨1, by omega, rfl, HR5⟩
        case measure => decide
      · have hsz := hidIt HR.out.2.2.2
        obtain ⟨p, ck, hp⟩ := HR.out.2.2.1 1 (by omega)
        have hno := hidIt hp
        clear hp
        go_wp2_with (first
          | (go_at_call 13; refine (lstep_none _ p hno.out).mono ?_; rintro e W1 ⟨rfl, hb⟩; have HR1 := hidIt (HR.out.below hb); have S1 := hidIt HR1.out.2.2.2; have N1 := hidIt (hno.out.below hb); have ck1 := (hb.cell (p := ⟨W.heap.size + 1, 1, none⟩) hsz.out).trans ck; clear hb ck)
          | (go_at_call 14; refine (lget_none _ p a n C N1.out).mono ?_; rintro e W2 ⟨rfl, hb⟩; have HR2 := hidIt (HR1.out.below hb); have S2 := hidIt HR2.out.2.2.2; have N2 := hidIt (N1.out.below hb); have ck2 := (hb.cell (p := ⟨W.heap.size + 1, 1, none⟩) S1.out).trans ck1; clear hb ck1)
          | (refine wpList_alloc_rec rfl 62 rfl zpr W2.heap.size rfl zero_pr ?_; intro W3 R3 B3 z3; have P3 := hidIt R3; have B3' := hidIt B3; have Z3 := hidIt z3; clear R3 B3 z3)
          | (refine wpList_store_rec rfl 62 (.tmp 8) (.tmp 41) rfl W2.heap.size 0 _ zpr rfl rfl P3.out rfl zpr_size zpr_one ?_; intro W4 R4 B4; have HB := B3'.out.trans (B4.below (Nat.le_refl _) (by have := Z3.out; omega)); have HR4 := hidIt (HR2.out.below HB); have N4 := hidIt (N2.out.below HB); have ck4 := (HB.cell (p := ⟨W.heap.size + 1, 1, none⟩) S2.out).trans ck2; clear R4 B4 HB ck2)
          | (go_at_call 15; refine (llists_none _ p a n C N4.out).mono ?_; rintro e W5 ⟨rfl, hb⟩; have HR5 := hidIt (HR4.out.below hb); clear hb))
        go_roundw
        case rel => exact ⟨2, by omega, rfl, HR5⟩
        case measure => decide
      · go_wp2_with (go_at_call 12; refine (lawake_any _).mono ?_; rintro e W1 ⟨rfl, hb⟩; have B1 := hidIt (HR.out.1.trans (hb.mono HR.out.1.size)); clear hb)
        exact bodyPost_ret (v := .bool true) (by simp [results, Tryz.results4, go_sem]) rfl ⟨rfl, B1.out⟩
end Go.Proofs.YtcjapldhfolpnaaGreatDoor
