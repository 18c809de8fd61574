/-
  Walks, not a claim by itself: U128Order comes out true. By the verifier.
-/
import Derived.Test.YtegpcjkdkjdckabKnown
import Derived.Test.YtegpcjkdkjdckabCmp
import Derived.Test.YtegpcjkdkjdckabOrd
import Derived.Deep.DeepCutAuto
import Derived.WalkLawsBesides
namespace Go.Proofs.Ytegpcjkdkjdckab
open Go.RowKit

/-- A number lies in a block. -/
def At (u : World) (b : Nat) (h l : Int) : Prop := u.cell? ⟨b, 0, none⟩ = some (.int .u64 h) ∧ u.cell? ⟨b, 1, none⟩ = some (.int .u64 l) ∧ b < u.heap.size
theorem At.below {u v : World} {b : Nat} {h l : Int} (k : At u b h l) (hb : Below u.heap.size u v) : At v b h l :=
  ⟨(hb.cell k.2.2).trans k.1, (hb.cell k.2.2).trans k.2.1, Nat.lt_of_lt_of_le k.2.2 hb.size⟩
theorem At.alloc {u : World} {b : Nat} {h l : Int} (k : At u b h l) (o : Obj) : At (u.alloc o) b h l := k.below ((Below.refl _ _).alloc (Nat.le_refl _) _)
theorem At.drew {u : World} {b : Nat} {h l : Int} (k : At u b h l) : At u.drew b h l := k
theorem At.new (u : World) (h l : Int) (t : TypeId) : At (u.alloc (.cells #[.int .u64 h, .int .u64 l] t)) u.heap.size h l := ⟨by simp [go_sem], by simp [go_sem], by simp⟩

set_option maxRecDepth 100000 in
set_option maxHeartbeats 4000000 in
theorem order_any (ah al bh bl : Int) (w : World) (h1 : Word ah) (h2 : Word al) (h3 : Word bh) (h4 : Word bl) :
    Calls Try.prog 4 #[U ah al, U bh bl] w fun e w' => e = .returned (.bool true) ∧ Below w.heap.size w w' := by
  go_enter Try.func4, Try.ntmps4
  go_wp2_with fail
  refine (known_any _).mono ?_
  rintro e w1 ⟨rfl, hb1⟩
  have A1 := ((At.new w ah al 24).alloc (.cells #[.int .u64 bh, .int .u64 bl] 24)).below hb1
  have B1 := (At.new (w.alloc (.cells #[.int .u64 ah, .int .u64 al] 24)) bh bl 24).below hb1
  rw [World.size_alloc] at B1
  have E1 : Hid (Below w.heap.size w w1) := (((Below.refl _ _).alloc (Nat.le_refl _) _).alloc (by simp) _).trans (hb1.mono (by simp; omega))
  clear hb1
  obtain ⟨a0, a1, az⟩ := id A1
  obtain ⟨b0, b1, bz⟩ := id B1
  go_wp2_with fail
  go_cut [6, 7] (fun t6 t7 wx => t6 = .string (KS ah al) ∧ t7 = .string (KS bh bl) ∧ At wx w.heap.size ah al ∧ At wx (w.heap.size + 1) bh bl ∧ Below w.heap.size w wx)
  case first =>
    go_region_with
      (first
        | (go_at_call_of 9 (Value.agg #[Value.int IntKind.u64 ah, Value.int IntKind.u64 al]); refine (key_any ah al _ h1 h2).mono ?_; rintro e w2 ⟨rfl, hk2, _, hz2, hb2⟩; obtain ⟨c0, c1, cz⟩ := (A1.drew.below hb2); obtain ⟨d0, d1, dz⟩ := (B1.drew.below hb2); have v2 := conv_key w2 (w1.heap.size + 1) ah al hk2; have m2 : Hid (Below w.heap.size w w2) := E1.out.drew.trans (hb2.mono E1.out.size))
        | (go_at_call_of 9 (Value.agg #[Value.int IntKind.u64 bh, Value.int IntKind.u64 bl]); refine (key_any bh bl _ h3 h4).mono ?_; rintro e w3 ⟨rfl, hk3, _, hz3, hb3⟩; obtain ⟨e0, e1, ez⟩ := At.below ⟨c0, c1, cz⟩ hb3; obtain ⟨f0, f1, fz⟩ := At.below ⟨d0, d1, dz⟩ hb3; have v3 := conv_key w3 (w2.heap.size + 1) bh bl hk3; have v4 := conv_key w3 (w1.heap.size + 1) ah al (fun j hj => (hb3.cell (p := ⟨w1.heap.size + 1, j, none⟩) hz2).trans (hk2 j hj)); have m3 : Hid (Below w.heap.size w w3) := m2.out.trans (hb3.mono m2.out.size)))
    all_goals
      go_wp2_with fail
      go_meet
      case rel => exact ⟨rfl, rfl, ⟨e0, e1, ez⟩, ⟨f0, f1, fz⟩, m3.out⟩
  case rest =>
    obtain ⟨rfl, rfl, hA, hB, hE⟩ := hcut
    clear a0 a1 az b0 b1 bz A1 B1 E1
    have E : Hid (Below w.heap.size w wc) := hE
    clear hE
    obtain ⟨a0, a1, az⟩ := id hA
    obtain ⟨b0, b1, bz⟩ := id hB
    by_cases g1 : V ah al < V bh bl
    · by_cases g2 : ah = bh
      · subst g2
        have g3 : ¬ al = bl := by intro k; subst k; omega
        have hc1 : Hid (cmpI (V ah al) (V ah bl) = -1) := by unfold Hid cmpI; rw [if_pos (by omega)]
        have hc2 : Hid (cmpI (V ah bl) (V ah al) = 1) := by unfold Hid cmpI; rw [if_neg (by omega), if_pos (by omega)]
        have hl : Op.bytesLess (KS ah al).toList (KS ah bl).toList = true := by rw [KS_less ah al ah bl h1 h2 h3 h4]; simp; omega
        have he : ((KS ah al).toList == (KS ah bl).toList) = false := by rw [KS_eq ah al ah bl h1 h2 h3 h4]; simp; omega
        go_wp2_with fail
        refine (cmp_any ah al ah bl _ h1 h2 h3 h4).mono ?_
        rintro e w5 ⟨rfl, hb5⟩
        rw [hc1.out]
        have A5 := hA.below hb5
        have B5 := hB.below hb5
        have E5 : Hid (Below w.heap.size w w5) := E.out.trans (hb5.mono E.out.size)
        clear a0 a1 az b0 b1 bz hb5
        obtain ⟨a0, a1, az⟩ := id A5
        obtain ⟨b0, b1, bz⟩ := id B5
        go_wp2_with fail
        refine (cmp_any ah bl ah al _ h3 h4 h1 h2).mono ?_
        rintro e w6 ⟨rfl, hb6⟩
        rw [hc2.out]
        obtain ⟨x0, x1, xz⟩ := A5.below hb6
        obtain ⟨y0, y1, yz⟩ := B5.below hb6
        have E6 : Hid (Below w.heap.size w w6) := E5.out.trans (hb6.mono E5.out.size)
        clear a0 a1 az b0 b1 bz hb6 A5 B5
        go_wp2_with fail
        go_ret
        exact ⟨rfl, E6.out⟩
      ·
        have hc1 : Hid (cmpI (V ah al) (V bh bl) = -1) := by unfold Hid cmpI; rw [if_pos (by omega)]
        have hc2 : Hid (cmpI (V bh bl) (V ah al) = 1) := by unfold Hid cmpI; rw [if_neg (by omega), if_pos (by omega)]
        have hl : Op.bytesLess (KS ah al).toList (KS bh bl).toList = true := by rw [KS_less ah al bh bl h1 h2 h3 h4]; simp; omega
        have he : ((KS ah al).toList == (KS bh bl).toList) = false := by rw [KS_eq ah al bh bl h1 h2 h3 h4]; simp; omega
        go_wp2_with fail
        refine (cmp_any ah al bh bl _ h1 h2 h3 h4).mono ?_
        rintro e w5 ⟨rfl, hb5⟩
        rw [hc1.out]
        have A5 := hA.below hb5
        have B5 := hB.below hb5
        have E5 : Hid (Below w.heap.size w w5) := E.out.trans (hb5.mono E.out.size)
        clear a0 a1 az b0 b1 bz hb5
        obtain ⟨a0, a1, az⟩ := id A5
        obtain ⟨b0, b1, bz⟩ := id B5
        go_wp2_with fail
        refine (cmp_any bh bl ah al _ h3 h4 h1 h2).mono ?_
        rintro e w6 ⟨rfl, hb6⟩
        rw [hc2.out]
        obtain ⟨x0, x1, xz⟩ := A5.below hb6
        obtain ⟨y0, y1, yz⟩ := B5.below hb6
        have E6 : Hid (Below w.heap.size w w6) := E5.out.trans (hb6.mono E5.out.size)
        clear a0 a1 az b0 b1 bz hb6 A5 B5
        go_wp2_with fail
        go_ret
        exact ⟨rfl, E6.out⟩
    · by_cases g4 : V bh bl < V ah al
      · by_cases g2 : ah = bh
        · subst g2
          have g3 : ¬ al = bl := by intro k; subst k; omega
          have hc1 : Hid (cmpI (V ah al) (V ah bl) = 1) := by unfold Hid cmpI; rw [if_neg (by omega), if_pos (by omega)]
          have hc2 : Hid (cmpI (V ah bl) (V ah al) = -1) := by unfold Hid cmpI; rw [if_pos (by omega)]
          have hl : Op.bytesLess (KS ah al).toList (KS ah bl).toList = false := by rw [KS_less ah al ah bl h1 h2 h3 h4]; simp; omega
          have he : ((KS ah al).toList == (KS ah bl).toList) = false := by rw [KS_eq ah al ah bl h1 h2 h3 h4]; simp; omega
          go_wp2_with fail
          refine (cmp_any ah al ah bl _ h1 h2 h3 h4).mono ?_
          rintro e w5 ⟨rfl, hb5⟩
          rw [hc1.out]
          have A5 := hA.below hb5
          have B5 := hB.below hb5
          have E5 : Hid (Below w.heap.size w w5) := E.out.trans (hb5.mono E.out.size)
          clear a0 a1 az b0 b1 bz hb5
          obtain ⟨a0, a1, az⟩ := id A5
          obtain ⟨b0, b1, bz⟩ := id B5
          go_wp2_with fail
          refine (cmp_any ah bl ah al _ h3 h4 h1 h2).mono ?_
          rintro e w6 ⟨rfl, hb6⟩
          rw [hc2.out]
          obtain ⟨x0, x1, xz⟩ := A5.below hb6
          obtain ⟨y0, y1, yz⟩ := B5.below hb6
          have E6 : Hid (Below w.heap.size w w6) := E5.out.trans (hb6.mono E5.out.size)
          clear a0 a1 az b0 b1 bz hb6 A5 B5
          go_wp2_with fail
          go_ret
          exact ⟨rfl, E6.out⟩
        ·
          have hc1 : Hid (cmpI (V ah al) (V bh bl) = 1) := by unfold Hid cmpI; rw [if_neg (by omega), if_pos (by omega)]
          have hc2 : Hid (cmpI (V bh bl) (V ah al) = -1) := by unfold Hid cmpI; rw [if_pos (by omega)]
          have hl : Op.bytesLess (KS ah al).toList (KS bh bl).toList = false := by rw [KS_less ah al bh bl h1 h2 h3 h4]; simp; omega
          have he : ((KS ah al).toList == (KS bh bl).toList) = false := by rw [KS_eq ah al bh bl h1 h2 h3 h4]; simp; omega
          go_wp2_with fail
          refine (cmp_any ah al bh bl _ h1 h2 h3 h4).mono ?_
          rintro e w5 ⟨rfl, hb5⟩
          rw [hc1.out]
          have A5 := hA.below hb5
          have B5 := hB.below hb5
          have E5 : Hid (Below w.heap.size w w5) := E.out.trans (hb5.mono E.out.size)
          clear a0 a1 az b0 b1 bz hb5
          obtain ⟨a0, a1, az⟩ := id A5
          obtain ⟨b0, b1, bz⟩ := id B5
          go_wp2_with fail
          refine (cmp_any bh bl ah al _ h3 h4 h1 h2).mono ?_
          rintro e w6 ⟨rfl, hb6⟩
          rw [hc2.out]
          obtain ⟨x0, x1, xz⟩ := A5.below hb6
          obtain ⟨y0, y1, yz⟩ := B5.below hb6
          have E6 : Hid (Below w.heap.size w w6) := E5.out.trans (hb6.mono E5.out.size)
          clear a0 a1 az b0 b1 bz hb6 A5 B5
          go_wp2_with fail
          go_ret
          exact ⟨rfl, E6.out⟩
      · obtain ⟨rfl, rfl⟩ : bh = ah ∧ bl = al := by
          obtain ⟨_, _⟩ := h1; obtain ⟨_, _⟩ := h2; obtain ⟨_, _⟩ := h3; obtain ⟨_, _⟩ := h4
          unfold V at g1 g4
          omega
        have hc1 : Hid (cmpI (V bh bl) (V bh bl) = 0) := by unfold Hid cmpI; rw [if_neg (by omega), if_neg (by omega)]
        have hc2 : Hid (cmpI (V bh bl) (V bh bl) = 0) := by unfold Hid cmpI; rw [if_neg (by omega), if_neg (by omega)]
        have hl : Op.bytesLess (KS bh bl).toList (KS bh bl).toList = false := by rw [KS_less bh bl bh bl h1 h2 h3 h4]; simp
        have he : ((KS bh bl).toList == (KS bh bl).toList) = true := by rw [KS_eq bh bl bh bl h1 h2 h3 h4]; simp
        go_wp2_with fail
        refine (cmp_any bh bl bh bl _ h1 h2 h3 h4).mono ?_
        rintro e w5 ⟨rfl, hb5⟩
        rw [hc1.out]
        have A5 := hA.below hb5
        have B5 := hB.below hb5
        have E5 : Hid (Below w.heap.size w w5) := E.out.trans (hb5.mono E.out.size)
        clear a0 a1 az b0 b1 bz hb5
        obtain ⟨a0, a1, az⟩ := id A5
        obtain ⟨b0, b1, bz⟩ := id B5
        go_wp2_with fail
        refine (cmp_any bh bl bh bl _ h3 h4 h1 h2).mono ?_
        rintro e w6 ⟨rfl, hb6⟩
        rw [hc2.out]
        obtain ⟨x0, x1, xz⟩ := A5.below hb6
        obtain ⟨y0, y1, yz⟩ := B5.below hb6
        have E6 : Hid (Below w.heap.size w w6) := E5.out.trans (hb6.mono E5.out.size)
        clear a0 a1 az b0 b1 bz hb6 A5 B5
        go_wp2_with fail
        go_ret
        exact ⟨rfl, E6.out⟩
end Go.Proofs.Ytegpcjkdkjdckab
