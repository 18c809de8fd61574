/-
  Walks, not a claim by itself: the 64 rounds of a block. By the verifier.
-/
import Derived.Test.YtblphlcnbnklmaaGreatDoorCSch
namespace Go.Proofs.YtblphlcnbnklmaaGreatDoor
open Go.RowKit

/-- The eight words. -/
structure S8 where
  a : Int
  b : Int
  c : Int
  d : Int
  e : Int
  f : Int
  g : Int
  h : Int
/-- One of the eight words. -/
def S8.at (s : S8) (j : Nat) : Int := match j with
  | 0 => s.a | 1 => s.b | 2 => s.c | 3 => s.d | 4 => s.e | 5 => s.f | 6 => s.g | _ => s.h
/-- The first sum of a round. -/
def t1 (k x : Int) (s : S8) : Int :=
  ((s.h + bits .xor .u32 (bits .xor .u32 (rotr s.e 6) (rotr s.e 11)) (rotr s.e 25) + bits .xor .u32 (bits .and .u32 s.e s.f) (bits .and .u32 (bits .xor .u32 (if IntKind.u32.signed = true then -1 else IntKind.u32.max) s.e) s.g) + k) % 4294967296 + x) % 4294967296
/-- The second sum of a round. -/
def t2 (s : S8) : Int :=
  (bits .xor .u32 (bits .xor .u32 (rotr s.a 2) (rotr s.a 13)) (rotr s.a 22) + bits .xor .u32 (bits .xor .u32 (bits .and .u32 s.a s.b) (bits .and .u32 s.a s.c)) (bits .and .u32 s.b s.c)) % 4294967296
/-- A round. -/
def rnd (k x : Int) (s : S8) : S8 := ⟨(t1 k x s + t2 s) % 4294967296, s.a, s.b, s.c, (s.d + t1 k x s) % 4294967296, s.e, s.f, s.g⟩
/-- t rounds. -/
def rnds (K X : Nat → Int) (s : S8) : Nat → S8
  | 0 => s
  | t + 1 => rnd (K t) (X t) (rnds K X s t)
/-- The words added to what they were. -/
def S8.plus (s r : S8) : S8 := ⟨(r.a + s.a) % 4294967296, (r.b + s.b) % 4294967296, (r.c + s.c) % 4294967296, (r.d + s.d) % 4294967296, (r.e + s.e) % 4294967296, (r.f + s.f) % 4294967296, (r.g + s.g) % 4294967296, (r.h + s.h) % 4294967296⟩
/-- The words as a value. -/
abbrev S8.val (s : S8) : Value := .agg #[.int .u32 s.a, .int .u32 s.b, .int .u32 s.c, .int .u32 s.d, .int .u32 s.e, .int .u32 s.f, .int .u32 s.g, .int .u32 s.h]
/-- The constants. -/
def KL : List Int := [1116352408, 1899447441, 3049323471, 3921009573, 961987163, 1508970993, 2453635748, 2870763221, 3624381080, 310598401, 607225278, 1426881987, 1925078388, 2162078206, 2614888103, 3248222580, 3835390401, 4022224774, 264347078, 604807628, 770255983, 1249150122, 1555081692, 1996064986, 2554220882, 2821834349, 2952996808, 3210313671, 3336571891, 3584528711, 113926993, 338241895, 666307205, 773529912, 1294757372, 1396182291, 1695183700, 1986661051, 2177026350, 2456956037, 2730485921, 2820302411, 3259730800, 3345764771, 3516065817, 3600352804, 4094571909, 275423344, 430227734, 506948616, 659060556, 883997877, 958139571, 1322822218, 1537002063, 1747873779, 1955562222, 2024104815, 2227730452, 2361852424, 2428436474, 2756734187, 3204031479, 3329325298]
def KF (j : Nat) : Int := KL.getD j 0
theorem wpList_build_to {ops : Array Oper} {rest : List Oper} {o : Oper} {a : Act} {w : World} {Q : Exit → Act → World → Prop} (hg : o.guard = none) (t : TypeId) (parts : Array (Nat × Operand)) (ho : o.op = .build t parts)
    (cells : Array Value) (hf : Tryz.prog.built t (parts.map fun (i, x) => (i, a.eval x)).toList = some cells)
    (h : wpList Tryz.prog ops Q rest (a.put o.dst (.agg cells)) w) : wpList Tryz.prog ops Q (o :: rest) a w := by
  refine wpList_build hg t parts ho (by rw [hf]; rfl) ?_
  rw [hf]
  exact h
set_option maxRecDepth 100000 in
theorem constants_any (w : World) : Calls Tryz.prog 221 #[] w fun e w' => e = .returned (.agg (cl .u32 64 KF).toArray) ∧ Below w.heap.size w w' := by
  go_enter Tryz.func221, Tryz.ntmps221
  go_wp2_with (first
    | (refine wpList_alloc_row rfl 274 rfl .u32 64 w.heap.size rfl zero32_64 ?_; intro W1 hR1 hB1 hz1)
    | (refine wpList_build_to rfl 274 _ rfl (cl .u32 64 KF).toArray (by kernel_rfl) ?_)
    | (refine wpList_store_row rfl 274 (.tmp 0) (.tmp 1) rfl w.heap.size .u32 64 KF (fun _ => 0) rfl rfl hR1 (by kernel_rfl) ?_; intro W2 hR2 hB2 hz2))
  have hl := hR2.run_load 274 _ Tryz.underlying274 rfl (by kernel_rfl)
  refine bodyPost_ret (v := .agg (cl .u32 64 KF).toArray) (by simp [results, Tryz.results221, asAddr, Act.put, hl]) rfl ⟨rfl, ?_⟩
  exact hB1.trans (hB2.below (Nat.le_refl _) (by omega))
/-- What the world has while the rounds are gone through. -/
def behW (w : World) (q : Nat) (s : S8) (X : Nat → Int) (wr : World) : Prop := IRow wr w.heap.size .u32 8 s.at ∧ IRow wr (w.heap.size + 1) .u32 64 X ∧ IRow wr (w.heap.size + 1 + 1) .u32 8 (fun _ => 0) ∧ IRow wr q .u32 64 KF ∧ w.heap.size + 1 + 1 < q ∧ Below w.heap.size w wr
theorem behW.below {w : World} {q : Nat} {s : S8} {X : Nat → Int} {u v : World} (h : behW w q s X u) (hb : Below u.heap.size u v) : behW w q s X v :=
  ⟨h.1.below hb, h.2.1.below hb, h.2.2.1.below hb, h.2.2.2.1.below hb, h.2.2.2.2.1, h.2.2.2.2.2.trans (hb.mono h.2.2.2.2.2.size)⟩
/-- What holds at the head of the first loop. -/
def behRel1 (w : World) (q : Nat) (s : S8) (X : Nat → Int) (va vb vc vd ve vf vg vh i : Value) (wr : World) : Prop := ∃ t : Nat, t ≤ 64 ∧ i = .int .i64 t ∧ va = .int .u32 (rnds KF X s t).a ∧ vb = .int .u32 (rnds KF X s t).b ∧ vc = .int .u32 (rnds KF X s t).c ∧ vd = .int .u32 (rnds KF X s t).d ∧ ve = .int .u32 (rnds KF X s t).e ∧ vf = .int .u32 (rnds KF X s t).f ∧ vg = .int .u32 (rnds KF X s t).g ∧ vh = .int .u32 (rnds KF X s t).h ∧ behW w q s X wr
/-- The words, t of them added to what they were. -/
def plusF (s r : S8) (t j : Nat) : Int := if j < t then (r.at j + s.at j) % 4294967296 else r.at j
/-- What holds at the head of the second loop. -/
def behRel2 (w : World) (q p : Nat) (s r : S8) (X : Nat → Int) (i : Value) (wr : World) : Prop := ∃ t : Nat, t ≤ 8 ∧ i = .int .i64 t ∧ IRow wr p .u32 8 (plusF s r t) ∧ behW w q s X wr ∧ q < p
theorem plusF_step (s r : S8) (t : Nat) : upd (plusF s r t) t ((plusF s r t t + s.at t) % 4294967296) = plusF s r (t + 1) := by
  funext j
  unfold upd plusF
  by_cases h : j = t
  · subst h; rw [if_pos rfl, if_neg (by omega), if_pos (by omega)]
  · rw [if_neg h]
    by_cases g : j < t
    · rw [if_pos g, if_pos (by omega)]
    · rw [if_neg g, if_neg (by omega)]
theorem beh_rel2 (w wr : World) (q p : Nat) (s r : S8) (X : Nat → Int) (t : Nat) (ht : t < 8) (hqp : q < p) (hq : w.heap.size + 1 + 1 < q) (hR : IRow wr p .u32 8 (plusF s r t)) (HW : behW w q s X wr) :
    behRel2 w q p s r X (.int .i64 ((t : Int) + 1)) (wr.setCell ⟨p, t, none⟩ (.int .u32 ((plusF s r t t + s.at t) % 4294967296))).drew := by
  have := hR.set t ((plusF s r t t + s.at t) % 4294967296)
  rw [plusF_step] at this
  obtain ⟨h1, h2, h3, h4, h5, h6⟩ := HW
  exact ⟨t + 1, by omega, by go_num, this.drew, ⟨(h1.but (But.set _ t _) (by omega)).drew, (h2.but (But.set _ t _) (by omega)).drew, (h3.but (But.set _ t _) (by omega)).drew, (h4.but (But.set _ t _) (by omega)).drew, h5, (h6.setCell (by show w.heap.size ≤ p; omega) _).drew⟩, hqp⟩
set_option maxRecDepth 100000 in
set_option maxHeartbeats 1000000 in
theorem behind_any (s : S8) (X : Nat → Int) (w : World) :
    Calls Tryz.prog 209 #[s.val, .agg (cl .u32 64 X).toArray] w fun e w' => e = .returned (s.plus (rnds KF X s 64)).val ∧ Below w.heap.size w w' := by
  go_enter Tryz.func209, Tryz.ntmps209
  go_wp2_with (first
    | (go_at_call 221; refine (constants_any _).mono ?_; rintro e w1 ⟨rfl, hB1⟩)
    | (refine wpList_alloc_row rfl 274 rfl .u32 64 w1.heap.size rfl zero32_64 ?_; intro W1 hR1 hB2 hz1)
    | (refine wpList_store_row rfl 274 (.tmp 5) (.tmp 19) rfl w1.heap.size .u32 64 KF (fun _ => 0) rfl rfl hR1 (by kernel_rfl) ?_; intro W2 hR2 hB3 hz2))
  have HW : behW w w1.heap.size s X W2 := by
    have z : w.heap.size + 1 + 1 < w1.heap.size := by have := hB1.size; simp at this; omega
    have A := ((IRow.new w 260 .u32 8 s.at).alloc (.cells (cl .u32 64 X).toArray 274)).alloc (.cells (cl .u32 8 fun _ => 0).toArray 260)
    have B := (IRow.new (w.alloc (.cells (cl .u32 8 s.at).toArray 260)) 274 .u32 64 X).alloc (.cells (cl .u32 8 fun _ => 0).toArray 260)
    have C := IRow.new ((w.alloc (.cells (cl .u32 8 s.at).toArray 260)).alloc (.cells (cl .u32 64 X).toArray 274)) 260 .u32 8 fun _ => 0
    have D : Below w.heap.size w (((w.alloc (.cells (cl .u32 8 s.at).toArray 260)).alloc (.cells (cl .u32 64 X).toArray 274)).alloc (.cells (cl .u32 8 fun _ => 0).toArray 260)) := (((Below.refl _ _).alloc (Nat.le_refl _) _).alloc (by simp) _).alloc (by simp; omega) _
    simp only [World.size_alloc] at B C
    have hB1' : Below (((w.alloc (.cells (cl .u32 8 s.at).toArray 260)).alloc (.cells (cl .u32 64 X).toArray 274)).alloc (.cells (cl .u32 8 fun _ => 0).toArray 260)).heap.size (((w.alloc (.cells (cl .u32 8 s.at).toArray 260)).alloc (.cells (cl .u32 64 X).toArray 274)).alloc (.cells (cl .u32 8 fun _ => 0).toArray 260)) w1 := hB1
    have E : Below w.heap.size w w1 := D.trans (hB1'.mono (by simp; omega))
    exact ⟨((A.below hB1').below hB2).but hB3 (by omega), ((B.below hB1').below hB2).but hB3 (by omega), ((C.below hB1').below hB2).but hB3 (by omega), hR2, z, (E.trans (hB2.mono (by omega))).trans (hB3.below (by omega) (by omega))⟩
  clear hB1 hB2 hB3 hR1 hR2 hz1 hz2
  generalize w1.heap.size = q at HW ⊢
  have a0 := HW.1.1 0 (by omega)
  have a1 := HW.1.1 1 (by omega)
  have a2 := HW.1.1 2 (by omega)
  have a3 := HW.1.1 3 (by omega)
  have a4 := HW.1.1 4 (by omega)
  have a5 := HW.1.1 5 (by omega)
  have a6 := HW.1.1 6 (by omega)
  have a7 := HW.1.1 7 (by omega)
  have HH : Hid (behW w q s X W2) := HW
  clear HW
  simp only [S8.at] at a0 a1 a2 a3 a4 a5 a6 a7
  go_quiet (fail)
  have HH2 : Hid (behRel1 w q s X (.int .u32 s.a) (.int .u32 s.b) (.int .u32 s.c) (.int .u32 s.d) (.int .u32 s.e) (.int .u32 s.f) (.int .u32 s.g) (.int .u32 s.h) (.int .i64 0) (W2.drewN nq)) := ⟨0, by omega, rfl, rfl, rfl, rfl, rfl, rfl, rfl, rfl, rfl, HH.out.below (below_drewN (Below.refl _ _) _)⟩
  clear a0 a1 a2 a3 a4 a5 a6 a7 HH
  generalize W2.drewN nq = W3 at HH2 ⊢
  go_wp2_with fail
  go_loopw [6, 7, 8, 9, 10, 11, 12, 13, 36] (fun va vb vc vd ve vf vg vh i wr => behRel1 w q s X va vb vc vd ve vf vg vh i wr) (fun _ _ _ _ _ _ _ _ i _ => 64 - (intOf i).toNat)
  case atStart => exact HH2.out
  case round =>
    obtain ⟨t, ht, rfl, rfl, rfl, rfl, rfl, rfl, rfl, rfl, rfl, HW⟩ := hrel
    clear HH2
    have HH : Hid (behW w q s X wr) := HW
    by_cases hlt : t < 64
    · have gk := HW.2.2.2.1.1 t hlt
      have gx := HW.2.1.1 t hlt
      clear HW
      have k0 : (t : Int) < 64 := by omega
      have k1 : (0 : Int) ≤ (t : Int) := by omega
      have hs : Hid (rnds KF X s (t + 1) = rnd (KF t) (X t) (rnds KF X s t)) := rfl
      generalize rnds KF X s t = r at hs ⊢
      go_wp2_with fail
      go_quiet ((go_at_call 222; exact Calls.quiet_of_same (right_of _ _ _ (by omega) (by omega))))
      rw [show ((r.h + bits .xor .u32 (bits .xor .u32 (rotr r.e 6) (rotr r.e 11)) (rotr r.e 25) + bits .xor .u32 (bits .and .u32 r.e r.f) (bits .and .u32 (bits .xor .u32 (if IntKind.u32.signed = true then -1 else IntKind.u32.max) r.e) r.g) + KF t) % 4294967296 + X t) % 4294967296 = t1 (KF t) (X t) r from rfl]
      go_wp2_with (go_at_call 222; refine (right_of _ _ _ (by omega) (by omega)).mono ?_; rintro e w' ⟨rfl, rfl⟩)
      exact ⟨⟨t + 1, by omega, by go_num, by rw [hs.out]; rfl, by rw [hs.out]; rfl, by rw [hs.out]; rfl, by rw [hs.out]; rfl, by rw [hs.out]; rfl, by rw [hs.out]; rfl, by rw [hs.out]; rfl, by rw [hs.out]; rfl, HH.out.below (below_drewN (Below.refl _ _) _)⟩, by simp [intOf]; omega⟩
    · obtain rfl : t = 64 := by omega
      clear HW
      rw [show ((64 : Nat) : Int) = 64 from rfl]
      obtain ⟨r, hr⟩ : ∃ r, rnds KF X s 64 = r := ⟨_, rfl⟩
      rw [hr]
      have HE : Hid (rnds KF X s 64 = r) := hr
      clear hr
      go_wp2_with fail
      have ST : Hid (behRel2 w q wr.heap.size s r X (.int .i64 0) (wr.alloc (.cells #[.int .u32 r.a, .int .u32 r.b, .int .u32 r.c, .int .u32 r.d, .int .u32 r.e, .int .u32 r.f, .int .u32 r.g, .int .u32 r.h] 260))) :=
        ⟨0, by omega, rfl, (IRow.new wr 260 .u32 8 r.at).congr (fun j _ => by unfold plusF; rw [if_neg (by omega)]), HH.out.below ((Below.refl _ _).alloc (Nat.le_refl _) _), HH.out.2.2.2.1.2.2⟩
      have hq := HH.out.2.2.2.2.1
      have hq1 := HH.out.2.2.2.1.2.2
      clear HH
      generalize (wr.alloc (.cells #[.int .u32 r.a, .int .u32 r.b, .int .u32 r.c, .int .u32 r.d, .int .u32 r.e, .int .u32 r.f, .int .u32 r.g, .int .u32 r.h] 260)) = W4 at ST ⊢
      generalize wr.heap.size = p at ST hq1 ⊢
      go_loopw [108] (fun i wr => behRel2 w q p s r X i wr) (fun i _ => 8 - (intOf i).toNat)
      case atStart => exact ST.out
      case round =>
        obtain ⟨t, ht, rfl, hR, HW, hqp⟩ := hrel
        clear ST
        have HH : Hid (behW w q s X wr) := HW
        have RR : Hid (IRow wr p .u32 8 (plusF s r t)) := hR
        by_cases hlt : t < 8
        · have gp := hR.1 t hlt
          have fp := hR.2.1 t
          have gs := HW.1.1 t hlt
          clear HW hR
          have k0 : (t : Int) < 8 := by omega
          have k1 : (0 : Int) ≤ (t : Int) := by omega
          have k2 : ¬ p = w.heap.size := by omega
          go_wp2_with fail
          go_region
          go_wp2_with fail
          first
            | exact ⟨beh_rel2 w wr q p s r X t hlt hqp hq RR.out HH.out, by simp [intOf]; omega⟩
            | (go_roundw
               case rel => exact beh_rel2 w wr q p s r X t hlt hqp hq RR.out HH.out
               case measure => simp [intOf]; omega)
        · obtain rfl : t = 8 := by omega
          clear HW hR
          go_wp2_with (first
            | (refine wpList_load_irow rfl 260 (.tmp 17) rfl p .u32 8 (plusF s r 8) rfl _ Tryz.underlying260 rfl (by kernel_rfl) RR.out ?_)
            | (refine wpList_store_row rfl 260 (.tmp 4) _ rfl (w.heap.size + 1 + 1) .u32 8 (plusF s r 8) (fun _ => 0) rfl rfl HH.out.2.2.1 (by kernel_rfl) ?_; intro W5 hR5 hB5 hz5))
          have hl := hR5.run_load 260 _ Tryz.underlying260 rfl (by kernel_rfl)
          refine bodyPost_ret (v := .agg (cl .u32 8 (plusF s r 8)).toArray) (by simp [results, Tryz.results209, asAddr, Act.put, hl]) rfl ⟨by rw [HE.out]; rfl, ?_⟩
          exact HH.out.2.2.2.2.2.trans (hB5.below (by omega) HH.out.2.2.2.2.2.size)
end Go.Proofs.YtblphlcnbnklmaaGreatDoor
