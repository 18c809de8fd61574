/-
  Walks, not a claim by itself: what Write hands to change. By the verifier.
-/
import Derived.Test.YtfapmogjmjlokaaDWr0
namespace Go.Proofs.Ytfapmogjmjlokaa
open Go.RowKit Go.Maps Go.Shelf
attribute [local go_sem] Oper.semAt_some
/-- What holds while the pieces come. -/
def wrI (W0 : World) (B d s m B3 B4 b off c a : Nat) (D : Dsk) (f : Nat → Int) (pre : List (Fin c)) (W : World) : Prop :=
  DiskAt W d s m (wrP D a f pre).2 ∧ W.cell? ⟨B3, 0, none⟩ = some (.pointer (some ⟨d, 0, none⟩)) ∧ W.cell? ⟨B4, 0, none⟩ = some (.int .i64 ((wrP D a f pre).1 : Int)) ∧ W.frozen? ⟨B4, 0, none⟩ = false ∧ Lies W b off (c * 256) f ∧ Off [s, m, B4] W0 W ∧ B ≤ W.heap.size ∧ B3 < W.heap.size ∧ B4 < W.heap.size
theorem Lies.off {u v : World} {b off n : Nat} {bs : List Nat} {f : Nat → Int} (h : Lies u b off n f) (hb : Off bs u v) (hn : b ∉ bs) : Lies v b off n f :=
  ⟨fun j hj => (hb.cell (p := ⟨b, off + j, none⟩) h.2.2 hn).trans (h.1 j hj), h.2.1, Nat.lt_of_lt_of_le h.2.2 hb.size⟩
theorem wrI_own (W0 : World) (B d s m B3 B4 b off c a : Nat) (D : Dsk) (f : Nat → Int) (h0 : W0.heap.size ≤ B) (h1 : d < B) (h2 : s < B) (h3 : m < B) (h4 : B3 < B) (h5 : B4 < B) (h6 : b < B) : OwnFrom (β := List (Fin c)) B (wrI W0 B d s m B3 B4 b off c a D f) := by
  rintro pre X Y row ⟨k1, k2, k3, k4, k5, k6, k7, k8, k9⟩ hg hr
  have O : Off row.toList X Y := Off.grown hg (fun r e => by rw [e]; simp)
  have no : ∀ k, k < B → k ∉ row.toList := fun k hk q => by
    have := (hr k (fz_mem q)).1
    omega
  refine ⟨k1.off O (no _ h1) (no _ h2) (no _ h3), (O.cell (p := ⟨B3, 0, none⟩) k8 (no _ h4)).trans k2, (O.cell (p := ⟨B4, 0, none⟩) k9 (no _ h5)).trans k3, (O.frozen (p := ⟨B4, 0, none⟩) k9 (no _ h5)).trans k4, k5.off O (no _ h6), k6.far O (fun r q => .inr ?_), Nat.le_trans k7 O.size, Nat.lt_of_lt_of_le k8 O.size, Nat.lt_of_lt_of_le k9 O.size⟩
  have := (hr r (fz_mem q)).1
  omega
theorem wrap_small (i : Nat) (h : i ≤ 65536) : IntKind.i64.wrap ((i : Int) + 1) = (i : Int) + 1 := by rw [IntKind.wrap_i64]; omega
theorem keeps_off {B : Nat} {bs : List Nat} {W W' : World} (h : Off bs W W') (hb : ∀ k, k ∈ bs → k < B) : KeepsFrom B W W' :=
  ⟨h.size, fun k o hk ho _ => (h.block k (Array.getElem?_eq_some_iff.1 ho).1 (fun q => by have := hb k q; omega)).trans ho⟩
/-- What the drawn region of a round needs. -/
def wrS (d s B3 B4 b off i N C : Nat) (g : Nat → Int) (X : World) : Prop := X.cell? ⟨B3, 0, none⟩ = some (.pointer (some ⟨d, 0, none⟩)) ∧ X.cell? ⟨d, 1, none⟩ = some (.slice (some ⟨s, 0, none⟩) N C) ∧ X.cell? ⟨B4, 0, none⟩ = some (.int .i64 (i : Int)) ∧ X.rangeAt b off (cl .u8 256 g)
theorem wr_step (W V V2 : World) (B d s m B3 B4 b off c a i : Nat) (D E : Dsk) (f : Nat → Int) (pre : List (Fin c)) (x : Fin c) (hp : wrP D a f pre = (i, E)) (hz : W.heap.size + 1 < B) (hs : s < W.heap.size) (hm : m < W.heap.size) (h4 : B4 < W.heap.size)
    (k1 : DiskAt V d s m E) (k2 : V.cell? ⟨B3, 0, none⟩ = some (.pointer (some ⟨d, 0, none⟩))) (k3 : V.cell? ⟨B4, 0, none⟩ = some (.int .i64 (i : Int))) (k4 : V.frozen? ⟨B4, 0, none⟩ = false) (k5 : Lies V b off (c * 256) f) (k6 : Off [s, m, B4] W V) (k7 : B ≤ V.heap.size) (k8 : B3 < V.heap.size) (k9 : B4 < V.heap.size)
    (hi : i < E.N) (g4 : B4 ≠ d ∧ B4 ≠ s ∧ B4 ≠ m) (g3 : B3 ≠ s ∧ B3 ≠ m ∧ B3 ≠ B4) (gb : b ≠ s ∧ b ≠ m ∧ b ≠ B4) (q1 : DiskAt V2 d s m (E.loosen i)) (q2 : Off [m] V V2) :
    ∃ V3, (Instr.storeAt 95 (.pointer (some ⟨s, i * 256, none⟩)) (.agg (cl .u8 256 (fun j => f (x.1 * 256 + j))).toArray)).run Try.prog V2.drew = .ok () V3 ∧ wrS d s B3 B4 b (off + x.1 * 256) i E.N E.C (fun j => f (x.1 * 256 + j)) V2.drew ∧ wrS d s B3 B4 b (off + x.1 * 256) i E.N E.C (fun j => f (x.1 * 256 + j)) V3 ∧ V3.cell? ⟨B4, 0, none⟩ = some (.int .i64 (i : Int)) ∧ V3.frozen? ⟨B4, 0, none⟩ = false ∧
      KeepsFrom B V (V3.setCell ⟨B4, 0, none⟩ (.int .i64 ((i : Int) + 1))) ∧ Kc W.heap.size (W.heap.size + 1) V (V3.setCell ⟨B4, 0, none⟩ (.int .i64 ((i : Int) + 1))) ∧ wrI (c := c) W B d s m B3 B4 b off a D f (pre ++ [x]) (V3.setCell ⟨B4, 0, none⟩ (.int .i64 ((i : Int) + 1))) := by
  have p3 := wrP_snoc D a f pre x
  rw [hp] at p3
  have gd := k1.ds
  have gm := k1.dm
  have gbytes : ∀ j, j < 256 → 0 ≤ f (x.1 * 256 + j) ∧ f (x.1 * 256 + j) < 256 := fun j hj => k5.2.1 _ (by have := x.2; omega)
  obtain ⟨V3, hr3, hR3, hB3⟩ := irow_put (fun j => f (x.1 * 256 + j)) q1.drew.row hi
  have D3 := q1.drew.stepped hR3 hB3 gbytes
  have O3 : Off [s, m, B4] V V3 := ((q2.mono (by simp)).drew).trans (Off.but hB3 (by simp))
  have L3 : Lies V3 b off (c * 256) f := k5.off O3 (by simp; omega)
  have e3 : V3.cell? ⟨B3, 0, none⟩ = some (.pointer (some ⟨d, 0, none⟩)) := (O3.cell (p := ⟨B3, 0, none⟩) k8 (by simp; omega)).trans k2
  have O23 : Off [m] V V2.drew := q2.drew
  have a3 : V2.drew.cell? ⟨B3, 0, none⟩ = some (.pointer (some ⟨d, 0, none⟩)) := (O23.cell (p := ⟨B3, 0, none⟩) k8 (by simp; omega)).trans k2
  have a4 : V2.drew.cell? ⟨B4, 0, none⟩ = some (.int .i64 (i : Int)) := (O23.cell (p := ⟨B4, 0, none⟩) k9 (by simp; omega)).trans k3
  have a1 : V2.drew.cell? ⟨d, 1, none⟩ = some (.slice (some ⟨s, 0, none⟩) E.N E.C) := (q1.drew.recd.cel 1 _ rfl).1
  have aL : V2.drew.rangeAt b (off + x.1 * 256) (cl .u8 256 (fun j => f (x.1 * 256 + j))) := fun j v hj => by
    obtain ⟨hk, rfl⟩ := cl_at' hj
    have := (k5.off O23 (by simp; omega)).1 (x.1 * 256 + j) (by have := x.2; omega)
    rw [Nat.add_assoc]
    exact this
  have b4 : V3.cell? ⟨B4, 0, none⟩ = some (.int .i64 (i : Int)) := (hB3.cell (p := ⟨B4, 0, none⟩) (Nat.lt_of_lt_of_le k9 O23.size) g4.2.1).trans a4
  have fr4 : V3.frozen? ⟨B4, 0, none⟩ = false := (hB3.frozen (p := ⟨B4, 0, none⟩) (Nat.lt_of_lt_of_le k9 O23.size) g4.2.1).trans ((O23.frozen (p := ⟨B4, 0, none⟩) k9 (by simp; omega)).trans k4)
  have b1 : V3.cell? ⟨d, 1, none⟩ = some (.slice (some ⟨s, 0, none⟩) E.N E.C) := (D3.recd.cel 1 _ rfl).1
  have bL : V3.rangeAt b (off + x.1 * 256) (cl .u8 256 (fun j => f (x.1 * 256 + j))) := fun j v hj => by
    obtain ⟨hk, rfl⟩ := cl_at' hj
    have := L3.1 (x.1 * 256 + j) (by have := x.2; omega)
    rw [Nat.add_assoc]
    exact this
  have O4 : Off [s, m, B4] V (V3.setCell ⟨B4, 0, none⟩ (.int .i64 ((i : Int) + 1))) := O3.trans (Off.set _ _ _ (by simp))
  refine ⟨V3, hr3, ⟨a3, a1, a4, aL⟩, ⟨e3, b1, b4, bL⟩, b4, fr4, keeps_off O4 (by simp; omega), ⟨O4.cell (p := ⟨W.heap.size, 0, none⟩) (by show W.heap.size < V.heap.size; omega) (by simp; omega), O4.cell (p := ⟨W.heap.size + 1, 0, none⟩) (by show W.heap.size + 1 < V.heap.size; omega) (by simp; omega)⟩, ?_⟩
  have O5 : Off [B4] V3 (V3.setCell ⟨B4, 0, none⟩ (.int .i64 ((i : Int) + 1))) := Off.set _ _ _ (by simp)
  unfold wrI
  rw [p3]
  refine ⟨D3.off O5 (by simp; omega) (by simp; omega) (by simp; omega), (O5.cell (p := ⟨B3, 0, none⟩) (Nat.lt_of_lt_of_le k8 O3.size) (by simp; omega)).trans e3, ?_, by simpa using fr4, L3.off O5 (by simp; omega), k6.trans O4, Nat.le_trans k7 O4.size, Nat.lt_of_lt_of_le k8 O4.size, Nat.lt_of_lt_of_le k9 O4.size⟩
  rw [World.cell?_setCell_same' _ _ _ (by rw [b4]; rfl)]
  rfl
/-- What a round does behind loosen. -/
def RoundOk (W : World) (B d s m B3 B4 b off c a i N C : Nat) (D : Dsk) (f : Nat → Int) (pre : List (Fin c)) (x : Fin c) (V V2 : World) : Prop :=
  ∃ V3, (Instr.storeAt 95 (.pointer (some ⟨s, i * 256, none⟩)) (.agg (cl .u8 256 (fun j => f (x.1 * 256 + j))).toArray)).run Try.prog V2.drew = .ok () V3 ∧ wrS d s B3 B4 b (off + x.1 * 256) i N C (fun j => f (x.1 * 256 + j)) V2.drew ∧ wrS d s B3 B4 b (off + x.1 * 256) i N C (fun j => f (x.1 * 256 + j)) V3 ∧ V3.cell? ⟨B4, 0, none⟩ = some (.int .i64 (i : Int)) ∧ V3.frozen? ⟨B4, 0, none⟩ = false ∧
    Hid (KeepsFrom B V (V3.setCell ⟨B4, 0, none⟩ (.int .i64 ((i : Int) + 1))) ∧ Kc W.heap.size (W.heap.size + 1) V (V3.setCell ⟨B4, 0, none⟩ (.int .i64 ((i : Int) + 1))) ∧ wrI (c := c) W B d s m B3 B4 b off a D f (pre ++ [x]) (V3.setCell ⟨B4, 0, none⟩ (.int .i64 ((i : Int) + 1))))
theorem wr_round (W V : World) (B d s m B3 B4 b off c a : Nat) (D : Dsk) (f : Nat → Int) (pre : List (Fin c)) (x : Fin c) (hI : wrI (c := c) W B d s m B3 B4 b off a D f pre V) (hlt : pre.length < c) (ha : a + c ≤ D.N) (hN : D.N ≤ 65536) (hz : W.heap.size + 1 < B) (hs : s < W.heap.size) (hm : m < W.heap.size) (h4 : B4 < W.heap.size)
    (n3 : B3 ∉ [s, m, B4]) (n4 : B4 ∉ [d, s, m]) (nb : b ∉ [s, m, B4]) :
    ∃ i N C : Nat, V.cell? ⟨B3, 0, none⟩ = some (.pointer (some ⟨d, 0, none⟩)) ∧ V.cell? ⟨B4, 0, none⟩ = some (.int .i64 (i : Int)) ∧ (0 : Int) ≤ i ∧ (i : Int) < N ∧ wrap64 ((i : Int) + 1) = (i : Int) + 1 ∧ IntKind.i64.wrap ((i : Int) + 1) = (i : Int) + 1 ∧ Hid (Calls Try.prog 78 #[.pointer (some ⟨d, 0, none⟩), .int .i64 (i : Int)] V fun e V2 => e = .returned (.tuple #[]) ∧ RoundOk W B d s m B3 B4 b off c a i N C D f pre x V V2) := by
  obtain ⟨k1, k2, k3, k4, k5, k6, k7, k8, k9⟩ := hI
  obtain ⟨p1, p2⟩ := wrP_one f pre D a
  obtain ⟨i, E, hp⟩ : ∃ i E, wrP D a f pre = (i, E) := ⟨_, _, rfl⟩
  rw [hp] at k1 k3 p1 p2
  dsimp only at k1 k3 p1 p2
  have hi : i < E.N := by omega
  refine ⟨i, E.N, E.C, k2, k3, by omega, by omega, by unfold wrap64; omega, wrap_small i (by omega), (loosen_ok V d s m i E k1 hi).mono ?_⟩
  rintro e V2 ⟨rfl, q1, q2⟩
  obtain ⟨V3, r1, r2, r3, r4, r5, r6, r7, r8⟩ := wr_step W V V2 B d s m B3 B4 b off c a i D E f pre x hp hz hs hm h4 k1 k2 k3 k4 k5 k6 k7 k8 k9 hi (by simpa using n4) (by simpa using n3) (by simpa using nb) q1 q2
  exact ⟨rfl, V3, r1, r2, r3, r4, r5, r6, r7, r8⟩
set_option maxRecDepth 100000 in
set_option maxHeartbeats 400000 in
theorem write1_ok (W : World) (d s m B3 B4 B5 b off c C a : Nat) (D : Dsk) (f : Nat → Int) (h : DiskAt W d s m D) (c5 : W.cell? ⟨B5, 0, none⟩ = some (.slice (some ⟨b, off, none⟩) (c * 256) C)) (c3 : W.cell? ⟨B3, 0, none⟩ = some (.pointer (some ⟨d, 0, none⟩))) (c4 : W.cell? ⟨B4, 0, none⟩ = some (.int .i64 (a : Int))) (f4 : W.frozen? ⟨B4, 0, none⟩ = false)
    (hL : Lies W b off (c * 256) f) (hc : c ≤ 8) (hC : c * 256 ≤ C) (ha : a + c ≤ D.N) (l3 : B3 < W.heap.size) (l4 : B4 < W.heap.size) (n3 : B3 ∉ [s, m, B4]) (n4 : B4 ∉ [d, s, m]) (nb : b ∉ [s, m, B4]) :
    Calls Try.prog 76 #[.pointer (some ⟨B5, 0, none⟩), .pointer (some ⟨B3, 0, none⟩), .pointer (some ⟨B4, 0, none⟩)] W fun e w' => e = .returned (.tuple #[]) ∧ DiskAt w' d s m (D.wrote a f c) ∧ Off [s, m, B4] W w' := by
  refine (callsIn_wide (n := 5)).1 ?_
  have HD : Hid (DiskAt W d s m D) := h
  have HL : Hid (Lies W b off (c * 256) f) := hL
  have h2 := h.n2
  have dl := h.dl
  have sl := h.sl
  have ml := h.ml
  have bl := hL.2.2
  have n3' : Hid (B3 ∉ [s, m, B4]) := n3
  have n4' : Hid (B4 ∉ [d, s, m]) := n4
  have nb' : Hid (b ∉ [s, m, B4]) := nb
  clear h hL n3 n4 nb
  refine callsIn_of_wp_marks Try.func76 rfl trivial ?_ rfl
  simp only [Try.ntmps76, List.size_toArray, List.length_cons, List.length_nil, Nat.reduceAdd, Nat.reduceSub, Array.replicate_succ, Array.replicate_zero, List.push_toArray, List.append_toArray, List.nil_append, List.cons_append]
  gi_wp2
  refine ⟨trivial, ?_⟩
  refine (chunk_in Fence.wide 4 trivial rfl _ _ _ _).mono ?_
  rintro e w' ⟨rfl, rfl⟩
  gi_wp2
  have bS : ((W.alloc (.cells #[.slice (some ⟨b, off, none⟩) (c * 256) C] 27)).alloc (.cells #[.int .i64 256] 3)).cell? ⟨W.heap.size, 0, none⟩ = some (.slice (some ⟨b, off, none⟩) (c * 256) C) := by simp [go_sem]
  have bN : ((W.alloc (.cells #[.slice (some ⟨b, off, none⟩) (c * 256) C] 27)).alloc (.cells #[.int .i64 256] 3)).cell? ⟨W.heap.size + 1, 0, none⟩ = some (.int .i64 256) := by simp [go_sem]
  have hz1 : ((W.alloc (.cells #[.slice (some ⟨b, off, none⟩) (c * 256) C] 27)).alloc (.cells #[.int .i64 256] 3)).heap.size = W.heap.size + 1 + 1 := by simp
  have hB1 : Below W.heap.size W ((W.alloc (.cells #[.slice (some ⟨b, off, none⟩) (c * 256) C] 27)).alloc (.cells #[.int .i64 256] 3)) := ((Below.refl _ _).alloc (Nat.le_refl _) _).alloc (by simp) _
  generalize ((W.alloc (.cells #[.slice (some ⟨b, off, none⟩) (c * 256) C] 27)).alloc (.cells #[.int .i64 256] 3)) = W1 at bS bN hz1 hB1 ⊢
  have SQ := chunk_stops Fence.wide 4 trivial rfl (by omega) W.heap.size (W.heap.size + 1) b off c C hc hC W1 (by omega) (by omega) bS bN
  have KB : ∀ (V : World) (l : Nat) (o o' : Obj), W1.heap.size ≤ l → V.heap[l]? = some o → o.isCells = false → o.isWalk = false → Kc W.heap.size (W.heap.size + 1) V (V.putObj l o') := fun V l o o' hl _ _ _ => ⟨World.cell?_of_block (World.putObj_heap_other (by show W.heap.size ≠ l; omega)), World.cell?_of_block (World.putObj_heap_other (by show W.heap.size + 1 ≠ l; omega))⟩
  have HI := wrI_own (c := c) W W1.heap.size d s m B3 B4 b off a D f (by omega) (by omega) (by omega) (by omega) (by omega) (by omega) (by omega)
  have H0 : wrI (c := c) W W1.heap.size d s m B3 B4 b off a D f [] W1 := ⟨HD.out.below hB1, (hB1.cell (p := ⟨B3, 0, none⟩) l3).trans c3, (hB1.cell (p := ⟨B4, 0, none⟩) l4).trans c4, (hB1.frozen (p := ⟨B4, 0, none⟩) l4).trans f4, HL.out.below hB1, Off.of hB1, Nat.le_refl _, by omega, by omega⟩
  refine wpIn_rangeFunc_ownG rfl (by decide) (gf := 89) (lb := #[.pointer (some ⟨W.heap.size, 0, none⟩), .pointer (some ⟨W.heap.size + 1, 0, none⟩)]) rfl trivial (enters_of Try.func89 (by kernel_rfl) rfl)
    SQ Kc.trans KB (Below.refl _ _) (fun _ => rfl) (wrI (c := c) W W1.heap.size d s m B3 B4 b off a D f) (fun _ _ _ => False) HI (fun _ _ _ _ _ hs _ _ => hs) H0
    (fun x => { tmps := #[.pointer (some ⟨B5, 0, none⟩), .pointer (some ⟨B3, 0, none⟩), .pointer (some ⟨B4, 0, none⟩), .slice (some ⟨b, off + x.1 * 256, none⟩) 256 256, .slice (some ⟨b, off, none⟩) (c * 256) C, .func (.func 89) #[] #[.pointer (some ⟨W.heap.size, 0, none⟩), .pointer (some ⟨W.heap.size + 1, 0, none⟩)], .slice (some ⟨b, off + x.1 * 256, none⟩) 256 256, undef, undef, undef, undef, undef, undef, undef, undef, undef, undef, undef, undef, undef, undef], defers := [] }) ?assign ?body ?done ?stop
  case assign =>
    intro l x V K hK
    gi_wp2
    exact hK
  case body =>
    intro l pre x V hI hlt
    obtain ⟨i, N, CC, k2, k3, i0, i1, w1', w2', LO⟩ := wr_round W V W1.heap.size d s m B3 B4 b off c a D f pre x hI hlt ha h2 (by omega) sl ml l4 n3'.out n4'.out nb'.out
    clear hI SQ KB HI H0 bS bN hB1
    gi_wp2
    refine ⟨trivial, ?_⟩
    refine (CallsIn.inRound l ((callsIn_wide (n := _)).2 LO.out)).mono ?_
    rintro e V2 ⟨rfl, V3, hr3, s2, s3, b4, fr4, PP⟩
    clear LO
    gi_wp2
    refine region_in (S := wrS d s B3 B4 b (off + x.1 * 256) i N CC (fun j => f (x.1 * 256 + j))) (by kernel_rfl) (by kernel_rfl) s2 (fun hHeld => ?_)
    refine take_at (i := 0) (v := ?_) (some 10) rfl rfl (by kernel_rfl) (by kernel_rfl) (by kernel_rfl) (fun _ _ _ h => by cases h.1) (Or.inl ⟨by rfl, ?_⟩) (by assumption) ?_
    rotate_left
    · (intro w hSw; (try dsimp only at hSw); obtain ⟨q1, q2, q3, q4⟩ := hSw; clear q4; go_simp; try with_reducible rfl)
    simp only [Act.put, List.setIfInBounds_toArray, List.set_cons_zero, List.set_cons_succ]
    refine take_at (i := 1) (v := ?_) (some 11) rfl rfl (by kernel_rfl) (by kernel_rfl) (by kernel_rfl) (fun _ _ _ h => by cases h.1) (Or.inl ⟨by rfl, ?_⟩) (by assumption) ?_
    rotate_left
    · (intro w hSw; (try dsimp only at hSw); obtain ⟨q1, q2, q3, q4⟩ := hSw; clear q4; go_simp; try with_reducible rfl)
    simp only [Act.put, List.setIfInBounds_toArray, List.set_cons_zero, List.set_cons_succ]
    refine take_at (i := 2) (v := ?_) (some 12) rfl rfl (by kernel_rfl) (by kernel_rfl) (by kernel_rfl) (fun _ _ _ h => by cases h.1) (Or.inl ⟨by rfl, ?_⟩) (by assumption) ?_
    rotate_left
    · (intro w hSw; (try dsimp only at hSw); obtain ⟨q1, q2, q3, q4⟩ := hSw; clear q4; go_simp; try with_reducible rfl)
    simp only [Act.put, List.setIfInBounds_toArray, List.set_cons_zero, List.set_cons_succ]
    refine take_at (i := 3) (v := ?_) (some 13) rfl rfl (by kernel_rfl) (by kernel_rfl) (by kernel_rfl) (fun _ _ _ h => by cases h.1) (Or.inl ⟨by rfl, ?_⟩) (by assumption) ?_
    rotate_left
    · (intro w hSw; (try dsimp only at hSw); obtain ⟨q1, q2, q3, q4⟩ := hSw; clear q4; go_simp; try with_reducible rfl)
    simp only [Act.put, List.setIfInBounds_toArray, List.set_cons_zero, List.set_cons_succ]
    refine take_at (i := 4) (v := ?_) (some 14) rfl rfl (by kernel_rfl) (by kernel_rfl) (by kernel_rfl) (fun _ _ _ h => by cases h.1) (Or.inl ⟨by rfl, ?_⟩) (by assumption) ?_
    rotate_left
    · (intro w hSw; (try dsimp only at hSw); obtain ⟨q1, q2, q3, q4⟩ := hSw; clear q4; go_simp; try with_reducible rfl)
    simp only [Act.put, List.setIfInBounds_toArray, List.set_cons_zero, List.set_cons_succ]
    refine take_at (i := 5) (v := ?_) (some 15) rfl rfl (by kernel_rfl) (by kernel_rfl) (by kernel_rfl) (fun _ _ _ h => by cases h.1) (Or.inl ⟨by rfl, ?_⟩) (by assumption) ?_
    rotate_left
    · (intro w hSw; (try dsimp only at hSw); obtain ⟨q1, q2, q3, q4⟩ := hSw; clear q4; go_simp; try with_reducible rfl)
    simp only [Act.put, List.setIfInBounds_toArray, List.set_cons_zero, List.set_cons_succ]
    refine take_at (i := 6) (v := (.pointer (some ⟨b, off + x.1 * 256, none⟩))) (some 16) rfl rfl (by kernel_rfl) (by kernel_rfl) (by kernel_rfl) (fun _ _ _ h => by cases h.1) (Or.inl ⟨by rfl, fun w _ => arr_run (.tmp 15) rfl _ 256 rfl⟩) (by assumption) ?_
    simp only [Act.put, List.setIfInBounds_toArray, List.set_cons_zero, List.set_cons_succ]
    refine take_at (i := 7) (v := _) (some 17) rfl rfl (by kernel_rfl) (by kernel_rfl) (by kernel_rfl) (fun _ _ _ h => by cases h.1) (yieldsIf_load_mid (by rfl) 95 (.tmp 16) rfl b (off + x.1 * 256) rfl (cl .u8 256 (fun j => f (x.1 * 256 + j))) _ (fun _ h => h.2.2.2) Try.underlying95 rfl (by rw [cl_len]; kernel_rfl)) (by assumption) ?_
    simp only [Act.put, List.setIfInBounds_toArray, List.set_cons_zero, List.set_cons_succ]
    refine take_at (i := 8) (v := ?_) (some 18) rfl rfl (by kernel_rfl) (by kernel_rfl) (by kernel_rfl) (fun _ _ _ h => by cases h.1) (Or.inl ⟨by rfl, ?_⟩) (by assumption) ?_
    rotate_left
    · (intro w hSw; (try dsimp only at hSw); obtain ⟨q1, q2, q3, q4⟩ := hSw; clear q4; go_simp; try with_reducible rfl)
    simp only [Act.put, List.setIfInBounds_toArray, List.set_cons_zero, List.set_cons_succ]
    refine skip_at (i := 9) none rfl rfl (by rfl) (by kernel_rfl) V3 (store_skip 95 (.tmp 18) (.tmp 17) rfl _ _ rfl rfl hr3) s3 (fun hHeld => ?_)
    simp only [Act.put]
    refine wpAnyH_done (by kernel_rfl) ?_ _
    refine ⟨rfl, ?_⟩
    gi_wp2
    exact ⟨PP.out.1, PP.out.2.1, PP.out.2.2⟩
  case done =>
    rintro D2 ys V hD2 rfl hI hK
    obtain ⟨k1, k2, k3, k4, k5, k6, k7, k8, k9⟩ := HI.putObj (.deferred none) hI hD2 hK rfl
    rw [wrP_all D a f c (Nat.le_refl _)] at k1
    gi_wp2
    refine ⟨by simp, .inl ⟨_, _, rfl, run_takeDeferred hK, ?_⟩⟩
    refine ⟨.tuple #[], by simp [results, Try.results76], rfl, k1, k6⟩
  case stop =>
    rintro D2 c2 pre V _ _ h _
    exact h.elim
end Go.Proofs.Ytfapmogjmjlokaa
