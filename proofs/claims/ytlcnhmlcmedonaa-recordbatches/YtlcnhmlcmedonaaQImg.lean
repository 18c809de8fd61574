/-
  Plain facts, not a claim by itself: the reference's bytes of a record are the program's. By the verifier.
-/
import Derived.Test.YtlcnhmlcmedonaaQAB
namespace Go.Proofs.Ytlcnhmlcmedonaa
open Go.RowKit
theorem cat_lay {F G g : Nat → Int} {m n : Nat} (h : ∀ j, j < m → F j = G j) : ∀ j, j < m + n → cat F m g j = lay G m n g j := by
  intro j hj
  unfold cat lay
  by_cases e : j < m
  · rw [if_pos e, if_pos e, h j e]
  · rw [if_neg e, if_neg e, if_pos hj]
set_option maxRecDepth 10000 in
theorem qimg (a : Fld) : ∀ j, j < 128 → (cat (cat (cat (cat (cat (cat (cat a.ws 96 (byt a.p)) 104 (byt a.q)) 108 (byt a.r)) 112 (byt a.s)) 116 (byt a.t)) 118 (byt a.u)) 120 (byt a.v)) j = a.img j := by
  have e0 : ∀ j, j < 0 → a.ws j = 0 := fun j hj => absurd hj (Nat.not_lt_zero j)
  have e1 : ∀ j, j < 16 → a.ws j = (lay (fun _ => 0) 0 16 (wide a.h0 a.l0)) j := fun j hj => (ws_step a 0 j hj).symm.trans (cat_lay (m := 0) (n := 16) e0 j hj)
  have e2 : ∀ j, j < 32 → a.ws j = (lay (lay (fun _ => 0) 0 16 (wide a.h0 a.l0)) 16 16 (wide a.h1 a.l1)) j := fun j hj => (ws_step a 1 j hj).symm.trans (cat_lay (m := 16) (n := 16) e1 j hj)
  have e3 : ∀ j, j < 48 → a.ws j = (lay (lay (lay (fun _ => 0) 0 16 (wide a.h0 a.l0)) 16 16 (wide a.h1 a.l1)) 32 16 (wide a.h2 a.l2)) j := fun j hj => (ws_step a 2 j hj).symm.trans (cat_lay (m := 32) (n := 16) e2 j hj)
  have e4 : ∀ j, j < 64 → a.ws j = (lay (lay (lay (lay (fun _ => 0) 0 16 (wide a.h0 a.l0)) 16 16 (wide a.h1 a.l1)) 32 16 (wide a.h2 a.l2)) 48 16 (wide a.h3 a.l3)) j := fun j hj => (ws_step a 3 j hj).symm.trans (cat_lay (m := 48) (n := 16) e3 j hj)
  have e5 : ∀ j, j < 80 → a.ws j = (lay (lay (lay (lay (lay (fun _ => 0) 0 16 (wide a.h0 a.l0)) 16 16 (wide a.h1 a.l1)) 32 16 (wide a.h2 a.l2)) 48 16 (wide a.h3 a.l3)) 64 16 (wide a.h4 a.l4)) j := fun j hj => (ws_step a 4 j hj).symm.trans (cat_lay (m := 64) (n := 16) e4 j hj)
  have e6 : ∀ j, j < 96 → a.ws j = (lay (lay (lay (lay (lay (lay (fun _ => 0) 0 16 (wide a.h0 a.l0)) 16 16 (wide a.h1 a.l1)) 32 16 (wide a.h2 a.l2)) 48 16 (wide a.h3 a.l3)) 64 16 (wide a.h4 a.l4)) 80 16 (wide a.h5 a.l5)) j := fun j hj => (ws_step a 5 j hj).symm.trans (cat_lay (m := 80) (n := 16) e5 j hj)
  have e7 : ∀ j, j < 104 → (cat a.ws 96 (byt a.p)) j = (lay (lay (lay (lay (lay (lay (lay (fun _ => 0) 0 16 (wide a.h0 a.l0)) 16 16 (wide a.h1 a.l1)) 32 16 (wide a.h2 a.l2)) 48 16 (wide a.h3 a.l3)) 64 16 (wide a.h4 a.l4)) 80 16 (wide a.h5 a.l5)) 96 8 (byt a.p)) j := cat_lay (m := 96) (n := 8) e6
  have e8 : ∀ j, j < 108 → (cat (cat a.ws 96 (byt a.p)) 104 (byt a.q)) j = (lay (lay (lay (lay (lay (lay (lay (lay (fun _ => 0) 0 16 (wide a.h0 a.l0)) 16 16 (wide a.h1 a.l1)) 32 16 (wide a.h2 a.l2)) 48 16 (wide a.h3 a.l3)) 64 16 (wide a.h4 a.l4)) 80 16 (wide a.h5 a.l5)) 96 8 (byt a.p)) 104 4 (byt a.q)) j := cat_lay (m := 104) (n := 4) e7
  have e9 : ∀ j, j < 112 → (cat (cat (cat a.ws 96 (byt a.p)) 104 (byt a.q)) 108 (byt a.r)) j = (lay (lay (lay (lay (lay (lay (lay (lay (lay (fun _ => 0) 0 16 (wide a.h0 a.l0)) 16 16 (wide a.h1 a.l1)) 32 16 (wide a.h2 a.l2)) 48 16 (wide a.h3 a.l3)) 64 16 (wide a.h4 a.l4)) 80 16 (wide a.h5 a.l5)) 96 8 (byt a.p)) 104 4 (byt a.q)) 108 4 (byt a.r)) j := cat_lay (m := 108) (n := 4) e8
  have e10 : ∀ j, j < 116 → (cat (cat (cat (cat a.ws 96 (byt a.p)) 104 (byt a.q)) 108 (byt a.r)) 112 (byt a.s)) j = (lay (lay (lay (lay (lay (lay (lay (lay (lay (lay (fun _ => 0) 0 16 (wide a.h0 a.l0)) 16 16 (wide a.h1 a.l1)) 32 16 (wide a.h2 a.l2)) 48 16 (wide a.h3 a.l3)) 64 16 (wide a.h4 a.l4)) 80 16 (wide a.h5 a.l5)) 96 8 (byt a.p)) 104 4 (byt a.q)) 108 4 (byt a.r)) 112 4 (byt a.s)) j := cat_lay (m := 112) (n := 4) e9
  have e11 : ∀ j, j < 118 → (cat (cat (cat (cat (cat a.ws 96 (byt a.p)) 104 (byt a.q)) 108 (byt a.r)) 112 (byt a.s)) 116 (byt a.t)) j = (lay (lay (lay (lay (lay (lay (lay (lay (lay (lay (lay (fun _ => 0) 0 16 (wide a.h0 a.l0)) 16 16 (wide a.h1 a.l1)) 32 16 (wide a.h2 a.l2)) 48 16 (wide a.h3 a.l3)) 64 16 (wide a.h4 a.l4)) 80 16 (wide a.h5 a.l5)) 96 8 (byt a.p)) 104 4 (byt a.q)) 108 4 (byt a.r)) 112 4 (byt a.s)) 116 2 (byt a.t)) j := cat_lay (m := 116) (n := 2) e10
  have e12 : ∀ j, j < 120 → (cat (cat (cat (cat (cat (cat a.ws 96 (byt a.p)) 104 (byt a.q)) 108 (byt a.r)) 112 (byt a.s)) 116 (byt a.t)) 118 (byt a.u)) j = (lay (lay (lay (lay (lay (lay (lay (lay (lay (lay (lay (lay (fun _ => 0) 0 16 (wide a.h0 a.l0)) 16 16 (wide a.h1 a.l1)) 32 16 (wide a.h2 a.l2)) 48 16 (wide a.h3 a.l3)) 64 16 (wide a.h4 a.l4)) 80 16 (wide a.h5 a.l5)) 96 8 (byt a.p)) 104 4 (byt a.q)) 108 4 (byt a.r)) 112 4 (byt a.s)) 116 2 (byt a.t)) 118 2 (byt a.u)) j := cat_lay (m := 118) (n := 2) e11
  have e13 : ∀ j, j < 128 → (cat (cat (cat (cat (cat (cat (cat a.ws 96 (byt a.p)) 104 (byt a.q)) 108 (byt a.r)) 112 (byt a.s)) 116 (byt a.t)) 118 (byt a.u)) 120 (byt a.v)) j = (lay (lay (lay (lay (lay (lay (lay (lay (lay (lay (lay (lay (lay (fun _ => 0) 0 16 (wide a.h0 a.l0)) 16 16 (wide a.h1 a.l1)) 32 16 (wide a.h2 a.l2)) 48 16 (wide a.h3 a.l3)) 64 16 (wide a.h4 a.l4)) 80 16 (wide a.h5 a.l5)) 96 8 (byt a.p)) 104 4 (byt a.q)) 108 4 (byt a.r)) 112 4 (byt a.s)) 116 2 (byt a.t)) 118 2 (byt a.u)) 120 8 (byt a.v)) j := cat_lay (m := 120) (n := 8) e12
  exact e13
end Go.Proofs.Ytlcnhmlcmedonaa
