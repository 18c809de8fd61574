/-
  Walks, not a claim by itself: the reference's Key. By the verifier.
-/
import Derived.WalkKit
import Derived.OwnWalk
import Derived.Test.YthgoionmooolaaaOver
import Derived.Test.YthgoionmooolaaaKey
namespace Go.Proofs.Ythgoionmooolaaa
open Go.RowKit
theorem info_u8 : (Try.prog.info? 5).map (fun i => (i.zero, i.size, i.bytes)) = some (some (.int .u8 0), 1, 1) := by kernel_rfl
/-- What is answered: a slice of its own, of the sixteen bytes, the highest first. -/
def RKeyPost (w : World) (L : List Int) (e : Ending) (w' : World) : Prop := (∃ v, e = .returned v ∧ w'.ownsRow (w.heap.size + 5) 5 1 v 16 (L.reverse.map (Value.int .u8))) ∧ Below w.heap.size w w'
def rkeyRel (w : World) (h l : Int) (v i : Value) (wr : World) : Prop := ∃ m : Nat, m ≤ 16 ∧ i = .int .i64 ((m : Int) - 1) ∧ wr.ownsRow (w.heap.size + 5) 5 1 v (16 - m) (((bytesL h l).drop m).reverse.map (Value.int .u8)) ∧ RowF wr (w.heap.size + 4) (bf h l) ∧ Below w.heap.size w wr
theorem drop_step (L : List Int) (p : Nat) (hp : p < L.length) : (L.drop (p + 1)).reverse.map (Value.int .u8) ++ [.int .u8 (L.getD p 0)] = (L.drop p).reverse.map (Value.int .u8) := by
  rw [List.drop_eq_getElem_cons hp, List.reverse_cons, List.map_append, List.map_cons, List.map_nil, List.getD_eq_getElem?_getD, List.getElem?_eq_getElem hp, Option.getD_some]
theorem rkey_rel0 (w wr : World) (h l : Int) (hR : RowF wr (w.heap.size + 4) (bf h l)) (hb : Below w.heap.size w wr) : rkeyRel w h l (.slice none 0 0) (.int .i64 15) wr :=
  ⟨16, by omega, by go_num, by
    have : (bytesL h l).drop 16 = [] := List.drop_eq_nil_of_le (Nat.le_refl 16)
    rw [this]; exact World.ownsRow_nil _ _ _ _, hR, hb⟩
theorem rkey_rel1 (w wr w1 : World) (h l : Int) (p : Nat) (hp : p < 16) (v v' : Value) (o : Obj) (hown : wr.ownsRow (w.heap.size + 5) 5 1 v (16 - (p + 1)) (((bytesL h l).drop (p + 1)).reverse.map (Value.int .u8)))
    (hZ : RowF wr (w.heap.size + 4) (bf h l)) (bel : Below w.heap.size w wr) (hown' : w1.ownsRow (w.heap.size + 5) 5 1 v' (16 - (p + 1) + 1) (((bytesL h l).drop (p + 1)).reverse.map (Value.int .u8) ++ [.int .u8 (bf h l p)])) (hgrow : (wr.alloc o).grownBy w1 v.ownBlock) :
    rkeyRel w h l v' (.int .i64 ((p : Int) - 1)) w1 := by
  have hlt := hown.lt
  refine ⟨p, by omega, rfl, ?_, ⟨fun j hj => ?_, ?_⟩, ?_⟩
  · have e : 16 - (p + 1) + 1 = 16 - p := by omega
    rw [e] at hown'
    have d : bf h l p = (bytesL h l).getD p 0 := rfl
    rw [d, drop_step _ p (by exact hp)] at hown'
    exact hown'
  · refine hgrow.cell ?_ ?_
    · exact (hZ.alloc o).1 j hj
    · intro e
      have := (hlt _ e.symm).1
      simp at this
  · have g := hgrow.size; have := hZ.2; rw [World.size_alloc] at g; omega
  · exact (bel.alloc bel.size o).grown hgrow (by rw [World.size_alloc]; have := bel.size; omega) (fun k hk => by have := (hlt k hk).1; omega)
set_option maxRecDepth 100000 in
set_option maxHeartbeats 1000000 in
theorem rkey_any (h l : Int) (w : World) (h1 : Word h) (h2 : Word l) :
    Calls Try.prog 13 #[U h l] w (RKeyPost w (bytesL h l)) := by
  obtain ⟨i0, hi, hz0, hz1, hz2⟩ := info_parts info_u8
  go_enter Try.func13, Try.ntmps13
  go_wp2_with fail
  refine (rbytes_let h l _ h1 h2).mono ?_
  rintro e w' ⟨b0, b1, b2, b3, b4, b5, b6, b7, b8, b9, b10, b11, b12, b13, b14, b15, rfl, hbs, o1, o2, o3, rfl⟩
  go_wp2_with fail
  go_loopw [4, 5] (fun v i wr => rkeyRel w h l v i wr) (fun _ i _ => (intOf i + 1).toNat)
  case atStart =>
    refine rkey_rel0 w _ h l ?_ ?_
    · repeat (first | with_reducible exact RowF.new _ _ h l _ _ _ _ _ _ _ _ _ _ _ _ _ _ _ _ _ hbs (by simp) | with_reducible refine RowF.drew ?_ | with_reducible refine RowF.alloc ?_ _)
    · repeat (first | with_reducible exact Below.refl _ _ | with_reducible refine Below.drew ?_ | with_reducible refine Below.alloc ?_ (by simp <;> omega) _)
  case round =>
    obtain ⟨m, hm, rfl, hown, hZ, bel⟩ := hrel
    have BE : Hid (Below w.heap.size w wr) := bel
    clear bel hbs
    rcases m with _ | p
    · rw [show (((0 : Nat) : Int) - 1) = -1 from rfl]
      go_wp2_with fail
      exact bodyPost_ret (by simp [results, Try.results13, go_sem]) rfl ⟨⟨_, rfl, hown⟩, BE.out⟩
    · rw [show (((p + 1 : Nat) : Int) - 1) = (p : Int) by omega]
      have gp := hZ.1 p (by omega)
      go_wp2_with (at_builtin; refine wpList_append_own _ rfl _ _ 25 rfl (w.heap.size + 5) 5 i0 (.int .u8 0) 1 1 Try.underlying25 hi hz0 hz1 hz2 rfl (by decide) _ _ _ rfl (hown.alloc _) ⟨wr.heap.size, 0, none⟩ 1 1 [.int .u8 (bf h l p)] rfl rfl ?c1 ?c2 ?c3 ?c4 ?c5 ?_)
      case c1 =>
        intro j u hj
        match j, hj with
        | 0, hj => simp at hj; subst hj; simp [Addr.add]
      case c2 => intro u hu; simp at hu; subst hu; rfl
      case c3 => unfold maxLen; omega
      case c4 => omega
      case c5 => have := hZ.2; rw [World.size_alloc]; omega
      intro v' w1 hown' hgrow _
      have R : Hid (rkeyRel w h l v' (.int .i64 ((p : Int) - 1)) w1) := rkey_rel1 w wr w1 h l p (by omega) _ v' _ hown hZ BE.out (by have q := hown'; rw [← List.map_drop, ← List.map_reverse] at q; rw [show 16 - (p + 1) + 1 = 15 - p + 1 by omega]; exact q) hgrow
      clear hown' hgrow hown hZ gp
      go_wp2_with fail
      go_roundw
      case rel => exact R.out
      case measure => simp [intOf]
end Go.Proofs.Ythgoionmooolaaa
