/-
  Walks, not a claim by itself: the kit's LargePairs. By the verifier.
-/
import Derived.Test.YtandkedipjmdbaaMtAw2
namespace Go.Proofs.Ytandkedipjmdbaa
open Go.RowKit
/-- A pair is not large. -/
def Sm (x : PV) : Prop := x.p.k.size ≤ 200 ∧ x.p.v.size ≤ 200
/-- What LargePairs answers. -/
def LgPost (W : World) (ps : List PV) (e : Ending) (w' : World) : Prop := ∃ b : Bool, e = .returned (.bool b) ∧ w' = W ∧ (b = false → ps.length ≤ 100 ∧ ∀ x ∈ ps, Sm x)
set_option maxRecDepth 100000 in
set_option maxHeartbeats 1000000 in
theorem large_any {W : World} {a : Option Addr} {ps : List PV} (n C : Nat) (hn : ps.length = n) (hL : Lst W a ps) : Calls Try.prog 16 #[.slice a n C, .int .i64 100] W (LgPost W ps) := by
  by_cases hbig : 100 < (n : Int)
  · have e1 : (100 < (n : Int)) = True := eq_true hbig
    clear hbig hL hn
    go_enter Try.func16, Try.ntmps16
    go_wp2_with fail
    exact bodyPost_ret (v := .bool true) (by simp [results, Try.results16, go_sem]) rfl ⟨true, rfl, rfl, fun h => by cases h⟩
  · have e1 : (100 < (n : Int)) = False := eq_false hbig
    have HB := hidIt (show n ≤ 100 by omega)
    have HL := hidIt hL
    have HN := hidIt hn
    clear hbig hL hn
    go_enter Try.func16, Try.ntmps16
    go_wp2_with fail
    go_loopw [5] (fun i wr => ∃ k : Nat, k ≤ n ∧ i = .int .i64 (k : Int) ∧ wr = W ∧ Hid (∀ j x, j < k → ps[j]? = some x → Sm x)) (fun i _ => n - (RowKit.intOf i).toNat)
    case atStart => exact ⟨0, Nat.zero_le _, rfl, rfl, hidIt (fun j x hj => by omega)⟩
    case round =>
      obtain ⟨k, hk, rfl, hw, hI⟩ := hrel
      subst hw
      by_cases hlt : k < n
      · obtain ⟨x, hx⟩ : ∃ x, ps[k]? = some x := ⟨_, List.getElem?_eq_getElem (by have := HN.out; omega)⟩
        obtain ⟨b1, o1, ha, hr1, _⟩ := HL.out.at k x hx
        have ok := HL.out.1 x (List.mem_of_getElem? hx)
        have HX := hidIt hx
        obtain ⟨xk, xv, xp⟩ := x
        obtain ⟨⟨a1, C1, f1, hxk, _⟩, a2, C2, f2, hxv, _⟩ := ok
        simp only at hxk hxv
        subst ha hxk hxv
        obtain ⟨q1, q2, _⟩ := three_cells hr1
        have SM : Hid (Sm ⟨.slice a1 xp.k.size C1, .slice a2 xp.v.size C2, xp⟩ ↔ xp.k.size ≤ 200 ∧ xp.v.size ≤ 200) := hidIt Iff.rfl
        have LT := hidIt hlt
        obtain ⟨i0, i1, i2, i3⟩ := k_ar k n hlt (by have := HB.out; omega)
        clear hr1 hx hlt hk
        simp only at q1 q2
        generalize xp.k.size = kn at *
        generalize xp.v.size = vn at *
        by_cases h1 : 200 < (kn : Int)
        · have c1 : (200 < (kn : Int)) = True := eq_true h1
          clear h1
          go_wp2_with fail
          exact bodyPost_ret (v := .bool true) (by simp [results, Try.results16, go_sem]) rfl ⟨true, rfl, rfl, fun h => by cases h⟩
        · have c1 : (200 < (kn : Int)) = False := eq_false h1
          by_cases h2 : 200 < (vn : Int)
          · have c2 : (200 < (vn : Int)) = True := eq_true h2
            clear h1 h2
            go_wp2_with fail
            exact bodyPost_ret (v := .bool true) (by simp [results, Try.results16, go_sem]) rfl ⟨true, rfl, rfl, fun h => by cases h⟩
          · have c2 : (200 < (vn : Int)) = False := eq_false h2
            have NX := hidIt (SM.out.2 ⟨by omega, by omega⟩)
            clear h1 h2
            go_wp2_with fail
            refine ⟨⟨k + 1, LT.out, rfl, trivial, hidIt (fun j y hj hy => ?_)⟩, meas_k n k _ rfl LT.out⟩
            by_cases e : j = k
            · subst e
              rw [HX.out] at hy
              injection hy with hy
              rw [← hy]
              exact NX.out
            · exact hI.out j y (by omega) hy
      · have i0 : ((k : Int) < (n : Int)) = False := eq_false (by omega)
        have AL : Hid (ps.length ≤ 100 ∧ ∀ x ∈ ps, Sm x) := hidIt ⟨by have := HN.out; have := HB.out; omega, fun x hx => by
          obtain ⟨j, hj, rfl⟩ := List.getElem_of_mem hx
          exact hI.out j _ (by have := HN.out; omega) (List.getElem?_eq_getElem hj)⟩
        clear hlt hk
        go_wp2_with fail
        exact bodyPost_ret (v := .bool false) (by simp [results, Try.results16, go_sem]) rfl ⟨false, rfl, rfl, fun _ => AL.out⟩
end Go.Proofs.Ytandkedipjmdbaa
