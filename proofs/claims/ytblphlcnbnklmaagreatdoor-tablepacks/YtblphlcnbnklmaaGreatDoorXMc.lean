/-
  Walks, not a claim by itself: table's Build, on a new grid. By the verifier.
-/
import Derived.Test.YtblphlcnbnklmaaGreatDoorIC
import Derived.Test.YtblphlcnbnklmaaGreatDoorXMb
import Derived.Test.YtblphlcnbnklmaaGreatDoorIB
namespace Go.Proofs.YtblphlcnbnklmaaGreatDoor
open Go.RowKit Go.Maps
/-- The disk behind k Writes of these images. -/
noncomputable def wrK (D : Dsk) (im : Nat → Nat → Int) : Nat → Dsk
  | 0 => D
  | k + 1 => wrD (wrK D im k) k (im k)
/-- The set behind k Acquires. -/
def hK (n : Nat) : Nat → Nat → Nat
  | 0 => iniH n
  | k + 1 => acqH (hK n k) (some k)
theorem hK_at (n : Nat) : ∀ (k j : Nat), k ≤ n → hK n k j = if j < k then 1 else iniH n j
  | 0, j, _ => by rw [if_neg (by omega)]; rfl
  | k + 1, j, h => by
    show setH (hK n k) k 1 j = _
    unfold setH
    by_cases e : j = k
    · subst e
      rw [if_pos rfl, if_pos (by omega)]
      rfl
    · rw [if_neg e, hK_at n k j (by omega)]
      by_cases q : j < k
      · rw [if_pos q, if_pos (by omega)]
      · rw [if_neg q, if_neg (by omega)]
theorem hK_low (n k : Nat) (hk : k < n) (hn : n ≤ 512) : low (fr (hK n k)) = some k := by
  unfold low
  refine low_some _ k ?_ 512 0 (Nat.zero_le _) (by omega) fun j _ hj => ?_
  · unfold fr
    rw [hK_at n k k (by omega), if_neg (by omega)]
    unfold iniH
    rw [if_pos hk]
    rfl
  · unfold fr
    rw [hK_at n k j (by omega), if_pos hj]
    rfl
theorem hK_sok (n : Nat) (h1 : 1 ≤ n) (h2 : n ≤ 512) (k : Nat) (hk : k ≤ n) : SOk n (hK n k) := by
  refine ⟨h1, h2, fun i hi => ?_, fun i => ?_⟩
  · rw [hK_at n k i hk, if_neg (by omega)]
    exact (ini_sok n h1 h2).out i hi
  · rw [hK_at n k i hk]
    split
    · omega
    · exact (ini_sok n h1 h2).le i
theorem cnt_hK (n k : Nat) (hk : k ≤ n) : ∀ m, m ≤ n → cnt (hK n k) 0 m = m - k ∧ cnt (hK n k) 1 m = min m k ∧ cnt (hK n k) 2 m = 0
  | 0, _ => by simp [cnt]
  | m + 1, h => by
    obtain ⟨a, b, c⟩ := cnt_hK n k hk m (by omega)
    unfold cnt
    rw [a, b, c, hK_at n k m hk]
    by_cases q : m < k
    · rw [if_pos q]
      refine ⟨?_, ?_, ?_⟩
      · rw [if_neg (by omega)]; omega
      · rw [if_pos rfl]; omega
      · rw [if_neg (by omega)]
    · rw [if_neg q]
      have e : iniH n m = 0 := by unfold iniH; rw [if_pos (by omega)]
      rw [e]
      refine ⟨?_, ?_, ?_⟩
      · rw [if_pos rfl]; omega
      · rw [if_neg (by omega)]; omega
      · rw [if_neg (by omega)]
theorem wrK_few {D : Dsk} {c : Int} (h : D.few c) (im : Nat → Nat → Int) : ∀ k : Nat, (wrK D im k).few (c + (k : Int))
  | 0 => by
    show D.few _
    simpa using h
  | k + 1 => by
    have := wrD_few (wrK_few h im k) k (im k)
    show (wrD (wrK D im k) k (im k)).few _
    rw [show c + ((k + 1 : Nat) : Int) = c + (k : Int) + 1 by omega]
    exact this
theorem wrK_N (D : Dsk) (im : Nat → Nat → Int) : ∀ k : Nat, (wrK D im k).N = D.N
  | 0 => rfl
  | k + 1 => (wrD_N _ _ _).trans (wrK_N D im k)
theorem wrK_free {n : Nat} (im : Nat → Nat → Int) (k : Nat) (hk : k ≤ 1000) : (wrK (dsk0 n) im k).free := (wrK_few (dsk0_few n) im k).free (by omega)
/-- What was written lies there. -/
theorem wrK_at (D : Dsk) (im : Nat → Nat → Int) : ∀ (k i : Nat), i < k → ∀ j, j < 1024 → blF (wrK D im k) i j = im i j
  | 0, i, h, _, _ => by omega
  | k + 1, i, h, j, hj => by
    show blF (wrD (wrK D im k) k (im k)) i j = _
    by_cases e : i = k
    · subst e
      exact wr_here _ _ _ j hj
    · rw [wr_there _ _ _ _ e j hj]
      exact wrK_at D im k i (by omega) j hj
/-- A data block of pairs, and the index block of m data blocks. -/
def dBk (i : Nat) (stamp : Int) (l : List Pr) : Blk := gB 1 ((i : Int) + 1) stamp 0 (fun _ => 0) (bodL l).length (nF (bodL l))
def rfF (stamp : Int) (j : Nat) : Int := if j % 2 = 0 then ((j / 2 : Nat) : Int) + 1 else stamp
def xBk (m : Nat) (stamp : Int) (ks : List ByteArray) : Blk := gB 2 ((m : Int) + 1) stamp m (rfF stamp) (idxL ks).length (nF (idxL ks))
theorem dBk_may {i : Nat} {stamp : Int} {l : List Pr} (hi : i < 512) (hs : 0 ≤ stamp ∧ stamp ≤ 1073741824) (hl : (bodL l).length ≤ 860) : (dBk i stamp l).May :=
  ⟨⟨by show (1 : Int) ≤ 1; omega, by show (1 : Int) ≤ 15; omega⟩, ⟨⟨by show (1 : Int) ≤ (i : Int) + 1; omega, by show (i : Int) + 1 ≤ 512; omega⟩, ⟨by show (0 : Int) ≤ stamp; omega, by show stamp ≤ 1073741824; omega⟩⟩, by show 0 ≤ 16; omega, by show _ ≤ 860; exact hl, fun i hi => absurd hi (by show ¬ i < 0; omega)⟩
theorem idx_small : ∀ (ks : List ByteArray), (∀ k ∈ ks, k.size ≤ 32) → (idxL ks).length ≤ 33 * ks.length
  | [], _ => by simp [idxL]
  | k :: r, h => by
    have := idx_small r (fun q hq => h q (List.mem_cons_of_mem _ hq))
    have hk := h k (List.mem_cons_self ..)
    rw [show idxL (k :: r) = pfL k ++ idxL r from rfl, List.length_append, pfL_len, List.length_cons]
    omega
theorem xBk_may {m : Nat} {stamp : Int} {ks : List ByteArray} (hm : m ≤ 16) (hs : 0 ≤ stamp ∧ stamp ≤ 1073741824) (hk : ks.length = m) (hz : ∀ k ∈ ks, k.size ≤ 32) : (xBk m stamp ks).May := by
  have := idx_small ks hz
  refine ⟨⟨by show (1 : Int) ≤ 2; omega, by show (2 : Int) ≤ 15; omega⟩, ⟨⟨by show (1 : Int) ≤ (m : Int) + 1; omega, by show (m : Int) + 1 ≤ 512; omega⟩, ⟨by show (0 : Int) ≤ stamp; omega, by show stamp ≤ 1073741824; omega⟩⟩, hm, by show (idxL ks).length ≤ 860; omega, fun i hi => ?_⟩
  have hi' : i < m := hi
  show RefOk (rfF stamp (2 * i)) (rfF stamp (2 * i + 1))
  unfold rfF
  rw [if_pos (by omega), if_neg (by omega), show 2 * i / 2 = i by omega]
  exact ⟨⟨by omega, by omega⟩, hs⟩
end Go.Proofs.YtblphlcnbnklmaaGreatDoor
namespace Go.Proofs.YtblphlcnbnklmaaGreatDoor
open Go.RowKit Go.Maps
/-- What append of a ref leaves: the list is where it was, or lies in a new block. -/
def GrowR (W : World) (x base N : Nat) (F : Nat → Int) (v' : Value) (W' : World) : Prop := ∃ x' cap', v' = .slice (some ⟨x', 0, none⟩) N cap' ∧ (x' = x ∨ W.heap.size ≤ x') ∧ OwnI W' base 57 2 v' N F ∧ But x W W'
theorem app_ref (ty : TypeId) (W : World) (base n m C x cap y off : Nat) (F G : Nat → Int) (ho : OwnI W base 57 2 (.slice (some ⟨x, 0, none⟩) n cap) n F) (hm0 : 0 < m) (hc : ∀ j, j < m * 2 → W.cell? ⟨y, off + j, none⟩ = some (.int .i64 (G j))) (hm : n + m ≤ 1000000) (hbase : base ≤ W.heap.size) :
    ∃ v' W', (Builtin.append_ #[66, 66] ty #[.slice (some ⟨x, 0, none⟩) n cap, .slice (some ⟨y, off, none⟩) m C]).run Tryz.prog W = .ok v' W' ∧ GrowR W x base (n + m) (cat F (n * 2) G) v' W' := by
  obtain ⟨i0, hi, hz0, hz1, hz2⟩ := info_parts ref_info
  have hlen : (cl .i64 (n * 2) F ++ cl .i64 (m * 2) G).length = n * 2 + m * 2 := by simp [cl_len]
  have hnews : ∀ j u, (cl .i64 (m * 2) G)[j]? = some u → W.cell? ((⟨y, off, none⟩ : Addr).add j) = some u := fun j u hj => by obtain ⟨h, rfl⟩ := cl_at' hj; rw [Addr.add_mid]; exact hc j h
  rcases ho.2 with ⟨h, _⟩ | ⟨x', cap', cur, hv, hbg, hg, hnc, hcm, hcs, htake⟩
  · cases h
  injection hv with hv _ hcc
  injection hv with hv
  injection hv with hv
  subst hv hcc
  by_cases hroom : n + m ≤ cap
  · have hr := run_append_room (P := Tryz.prog) W 66 ty 57 i0 Tryz.underlying66 hi x n cap cur hg ⟨y, off, none⟩ m C (cl .i64 (m * 2) G) (by rw [cl_len, hz1]) hnews (cl_one _ _ _) hroom (by rw [cl_len, hcs, hz1]; omega)
    refine ⟨_, _, hr, x, cap, rfl, .inl rfl, ⟨by rw [cl_len], .inr ⟨x, cap, _, rfl, hbg, setRow_heap W x cur _ 57 _ hg, hroom, hcm, ?_, ?_⟩⟩, ?_⟩
    · simp only [List.size_toArray, List.length_append, List.length_take, List.length_drop, Array.length_toList, cl_len, hz1]
      omega
    · rw [hz1, htake, Nat.add_mul, ← cl_cat, ← hlen]
      exact List.take_left
    · exact ⟨rfl, rfl, rfl, by simp, fun k _ hk => setRow_other W x k _ (fun e => hk e)⟩
  · have holds : ∀ j u, (cl .i64 (n * 2) F)[j]? = some u → W.cell? ((⟨x, 0, none⟩ : Addr).add j) = some u := World.ownsRow.cells (g := x) ho rfl
    have hfit : Builtin.nextslicecap (n + m) cap * i0.bytes ≤ 281474976710656 := growslice_fits (by omega) (by rw [hz2]; omega)
    have hr := run_append_grow (P := Tryz.prog) W 66 ty 57 i0 (.agg (twoC 0 0).toArray) Tryz.underlying66 hi hz0 ⟨x, 0, none⟩ n cap (cl .i64 (n * 2) F) (by rw [cl_len, hz1]) holds ⟨y, off, none⟩ m C (cl .i64 (m * 2) G) (by rw [cl_len, hz1]) hnews (by omega) (by omega) hfit
    have hge := grownCap_ge W (n + m) cap 57
    refine ⟨_, _, hr, W.heap.size, _, rfl, .inr (Nat.le_refl _), ⟨by rw [cl_len], .inr ⟨W.heap.size, _, _, rfl, hbase, heap_alloc_new W.drew _, hge, grownCap_le_maxLen W (n + m) cap 57 (by unfold maxLen; omega), ?_, ?_⟩⟩, ?_⟩
    · simp only [Array.size_append, List.size_toArray, size_zeroCells, cl_len, Value.cells]
      show n * 2 + m * 2 + (grownCap W (n + m) cap 57 - (n + m)) * 2 = _
      omega
    · simp only [Array.toList_append, List.append_assoc]
      rw [Nat.add_mul, ← List.append_assoc, ← cl_cat, ← hlen]
      exact List.take_left
    · exact But.of ((Below.refl W.heap.size W).drew.alloc (Nat.le_refl _) _)
end Go.Proofs.YtblphlcnbnklmaaGreatDoor
namespace Go.Proofs.YtblphlcnbnklmaaGreatDoor
open Go.RowKit Go.Maps
/-- append of a ref: only the list's own block is changed. -/
theorem app_refU (ty : TypeId) (W : World) (base n y C : Nat) (v : Value) (F : Nat → Int) (p q : Int) (ho : OwnI W base 57 2 v n F) (hnil : n = 0 → v = .slice none 0 0) (hc : W.rangeAt y 0 (twoC p q)) (hm : n + 1 ≤ 100000) (hbase : base ≤ W.heap.size) :
    ∃ a m C' W', (Builtin.append_ #[66, 66] ty #[v, .slice (some ⟨y, 0, none⟩) 1 C]).run Tryz.prog W = .ok (.slice a m C') W' ∧ OwnI W' base 57 2 (.slice a m C') (n + 1) (cat F (n * 2) (fun j => if j = 0 then p else q)) ∧ Off v.ownBlock.toList W W' ∧ (∀ g, (Value.slice a m C').ownBlock = some g → v.ownBlock = some g ∨ W.heap.size ≤ g) := by
  have hc' : ∀ j, j < 1 * 2 → W.cell? ⟨y, 0 + j, none⟩ = some (.int .i64 (if j = 0 then p else q)) := fun j hj => by
    match j, hj with
    | 0, _ => exact hc 0 _ rfl
    | 1, _ => exact hc 1 _ rfl
  by_cases h0 : n = 0
  · subst h0
    rw [hnil rfl] at ho ⊢
    obtain ⟨v', W', hr, hO, hB⟩ := OwnI.app (W := W) (base := W.heap.size) (ty := ty) Tryz.underlying66 ref_info rfl (by decide) (by decide) (OwnI.nil W W.heap.size 57 2 F) (C := C) (m := 1) y 0 hc' (by omega) (Nat.le_refl _)
    obtain ⟨a, cap, rfl, _⟩ := hO.slice
    exact ⟨a, _, cap, W', hr, hO.base hbase, Off.of hB, fun g hg => .inr (World.ownsRow.lt hO g hg).1⟩
  · obtain ⟨x, cap, rfl, _, _, _, _⟩ := ho.form (by omega)
    obtain ⟨v', W', hr, x', cap', rfl, hx, hO, hB⟩ := app_ref ty W base n 1 C x cap y 0 F _ ho (by omega) hc' (by omega) hbase
    exact ⟨_, _, _, W', hr, hO, Off.but hB (by simp [Value.ownBlock]), fun g hg => by
      injection hg with hg
      subst hg
      rcases hx with h | h
      · exact .inl (by rw [h]; rfl)
      · exact .inr h⟩
/-- A grid where blocks that are none of its are changed. -/
theorem GNew.offN {w0 W W' : World} {g d s m b mm n : Nat} {D : Dsk} {h : Nat → Nat} {N : List Nat} (hN : GNew w0 W g d s m b mm D n h) (hO : Off N W W') (hn : ∀ c, c ∈ N → c ∉ [g, d, s, m, b, mm] ∧ w0.heap.size ≤ c) : GNew w0 W' g d s m b mm D n h := by
  have nn : ∀ x, x ∈ [g, d, s, m, b, mm] → x ∉ N := fun x hx hm => (hn x hm).1 hx
  exact ⟨⟨hN.st.at'.off hO (nn d (by simp)) (nn s (by simp)) (nn m (by simp)), hN.st.hd, hN.st.hs, hN.st.hm, hN.st.bel.trans (hO.below (fun c hc => (hn c hc).2) hN.st.bel.size)⟩, hN.ga.off hO (nn g (by simp)), hN.sa.offI hO (nn b (by simp)), hN.ok, OwnsR.off hN.wm hO (nn mm (by simp)), hN.w0l, hN.ne⟩
theorem GNew.lt {w0 W : World} {g d s m b mm n : Nat} {D : Dsk} {h : Nat → Nat} (hN : GNew w0 W g d s m b mm D n h) : ∀ x, x ∈ [g, d, s, m, b, mm] → x < W.heap.size := fun x hx => by
  rcases Nat.lt_or_ge x W.heap.size with q | q
  · exact q
  · exact absurd hx (hN.far q)
/-- What a Write of a grid without wants answers. -/
def GwP (w0 W : World) (g d s m mm n i : Nat) (D : Dsk) (h : Nat → Nat) (stamp : Int) (f : Nat → Int) (e : Ending) (w' : World) : Prop := e = .returned (.tuple #[.agg (twoC ((i : Int) + 1) stamp).toArray, .int .i64 0]) ∧ ∃ b' m', GNew w0 w' g d s m' b' mm (wrD D i f) n (acqH h (some i)) ∧ (m' = m ∨ W.heap.size ≤ m') ∧ W.heap.size ≤ b' ∧ Off [g, d, s, m] W w'
theorem gw_new (w0 W : World) (g d s m b mm n i : Nat) (D : Dsk) (h : Nat → Nat) (kind stamp : Int) (a bb : Option Addr) (k C nb Cb : Nat) (r F : Nat → Int) (hN : GNew w0 W g d s m b mm D n h) (hf : D.free) (hT : DTab w0) (h0 : 0 < w0.heap.size) (hl : low (fr h) = some i) (hD : 104 + 4 * n ≤ D.N) (hR : HArg W a k r) (hk : k ≤ C) (hBd : Arg W bb nb F) (hnb : nb ≤ Cb) (hM : (gB kind ((i : Int) + 1) stamp k r nb F).May) :
    Calls Tryz.prog 73 #[.pointer (some ⟨g, 0, none⟩), .int .i64 kind, .slice a k C, .slice bb nb Cb, .int .i64 stamp] W (GwP w0 W g d s m mm n i D h stamp (gB kind ((i : Int) + 1) stamp k r nb F).img) := by
  have ne := hN.ne
  simp only [List.nodup_cons, List.mem_cons, List.not_mem_nil, or_false, not_or, not_false_eq_true, List.nodup_nil, and_true] at ne
  refine (gwrite_ok w0 W g d s m b mm n i (.slice none 0 0) D h kind stamp a bb k C nb Cb r F hN.st hf hN.ga hN.sa hN.ok (hT.belowI hN.st.bel h0) (Nat.lt_of_lt_of_le h0 hN.st.bel.size) hl hD ⟨by omega, by omega, by omega, hN.w0l.1⟩ hR hk hBd hnb hM).mono ?_
  rintro e w' ⟨b', m', rfl, q1, q2, q3, q4, q5, q6, q7⟩
  exact ⟨rfl, b', m', GNew.wrote hN hl q1 q2 q3 q4 q5 q6 q7, q5, q4, q7⟩
/-- A body's first key. -/
def hdK : List Pr → ByteArray
  | [] => .empty
  | p :: _ => p.k
/-- The images of a table's blocks. -/
noncomputable def imT (stamp : Int) (bd : List (List Pr)) (i : Nat) : Nat → Int := if i < bd.length then (dBk i stamp (bd.getD i [])).img else (xBk bd.length stamp (bd.map hdK)).img
/-- What holds at the head of write's loop. -/
structure WrI (w0 W wr : World) (g d s m0 mm n : Nat) (stamp : Int) (bd : List (List Pr)) (i m b : Nat) (rv fv : Value) : Prop where
  nw : GNew w0 wr g d s m b mm (wrK (dsk0 (104 + 4 * n)) (imT stamp bd) i) n (hK n i)
  off : Off [g, d, s, m0] W wr
  mo : m = m0 ∨ W.heap.size ≤ m
  rf : OwnI wr W.heap.size 57 2 rv i (rfF stamp)
  fs : Own wr W.heap.size fv (idxL ((bd.take i).map hdK)).length (nF (idxL ((bd.take i).map hdK)))
  nil : i = 0 → rv = .slice none 0 0
  apr : ∀ x, rv.ownBlock = some x → x ∉ [g, d, s, m, b, mm] ∧ fv.ownBlock ≠ some x
  apf : ∀ x, fv.ownBlock = some x → x ∉ [g, d, s, m, b, mm]
theorem rfF_next (stamp : Int) (i : Nat) : ∀ j, j < (i + 1) * 2 → cat (rfF stamp) (i * 2) (fun j => if j = 0 then (i : Int) + 1 else stamp) j = rfF stamp j := fun j hj => by
  unfold cat
  by_cases h : j < i * 2
  · rw [if_pos h]
  · rw [if_neg h]
    by_cases e : j = i * 2
    · subst e
      show (if i * 2 - i * 2 = 0 then (i : Int) + 1 else stamp) = (if i * 2 % 2 = 0 then ((i * 2 / 2 : Nat) : Int) + 1 else stamp)
      rw [if_pos (by omega), if_pos (by omega), show i * 2 / 2 = i by omega]
    · show (if j - i * 2 = 0 then (i : Int) + 1 else stamp) = (if j % 2 = 0 then ((j / 2 : Nat) : Int) + 1 else stamp)
      rw [if_neg (by omega), if_neg (by omega)]
theorem pf_of_bod {l : List Pr} (hl : l ≠ []) : ∃ r, bodL l = pfL (hdK l) ++ r := by
  obtain ⟨p, r, rfl⟩ := List.exists_cons_of_ne_nil hl
  exact ⟨_, by rw [show bodL (p :: r) = pbL p ++ bodL r from rfl, pb_eq, List.append_assoc]; rfl⟩
/-- A part at the front. -/
theorem lies_front {W : World} {b : Nat} {L R : List Int} (h : Lies W b 0 (L ++ R).length (nF (L ++ R))) : Lies W b 0 L.length (nF L) :=
  ⟨fun j hj => by rw [h.1 j (by rw [List.length_append]; omega), nF_left _ _ _ hj], fun j hj => by rw [← nF_left L R j hj]; exact h.2.1 j (by rw [List.length_append]; omega), h.2.2⟩
theorem take_hd (bd : List (List Pr)) (i : Nat) (l : List Pr) (h : bd[i]? = some l) : (bd.take (i + 1)).map hdK = (bd.take i).map hdK ++ [hdK l] := by
  rw [List.take_add_one, h, List.map_append]
  rfl
end Go.Proofs.YtblphlcnbnklmaaGreatDoor
namespace Go.Proofs.YtblphlcnbnklmaaGreatDoor
open Go.RowKit Go.Maps
theorem own_nF {w : World} {base : Nat} {v : Value} {L M : List Int} (h : Own w base v L.length (nF L)) (e : L = M) : Own w base v M.length (nF M) := by rw [← e]; exact h
theorem xwr_round {w0 W1 wr W2 W4 : World} {g d s m0 mm n : Nat} {stamp : Int} {bd : List (List Pr)} {i m b m2 b2 pb pC : Nat} {rv fv : Value} {l : List Pr}
    (hI : WrI w0 W1 wr g d s m0 mm n stamp bd i m b rv fv) (hw : w0.heap.size ≤ W1.heap.size) (hN2 : GNew w0 W2 g d s m2 b2 mm (wrD (wrK (dsk0 (104 + 4 * n)) (imT stamp bd) i) i (dBk i stamp l).img) n (acqH (hK n i) (some i))) (hm2 : m2 = m ∨ wr.heap.size ≤ m2) (hb2 : wr.heap.size ≤ b2) (hO2 : Off [g, d, s, m] wr W2) (hB4 : Below W2.heap.size W2 W4) (hl : bd[i]? = some l) (hne : l ≠ []) (hi : i ≤ 1000)
    (hll : Lies wr pb 0 (bodL l).length (nF (bodL l))) (hpb : pb < W1.heap.size) (hpn : pb ∉ [g, d, s, m0]) (hks : (hdK l).size ≤ 32 ∧ 0 < (hdK l).size) (hsz : (idxL ((bd.take i).map hdK)).length ≤ 100000) :
    ∃ a1 n1 C1 W6 a2 n2 C2 W7, (Builtin.append_ #[66, 66] 66 #[rv, .slice (some ⟨W4.heap.size, 0, none⟩) 1 1]).run Tryz.prog (W4.alloc (.cells #[.int .i64 ((i : Int) + 1), .int .i64 stamp] 57)) = .ok (.slice a1 n1 C1) W6 ∧ W6.cell? ⟨pb, 0, none⟩ = some (.int .u8 ((hdK l).size : Int)) ∧
      (Builtin.append_ #[23, 23] 23 #[fv, .slice (some ⟨pb, 0, none⟩) (pfL (hdK l)).length pC]).run Tryz.prog W6 = .ok (.slice a2 n2 C2) W7 ∧ WrI w0 W1 W7 g d s m0 mm n stamp bd (i + 1) m2 b2 (.slice a1 n1 C1) (.slice a2 n2 C2) := by
  have hir : i < bd.length := (List.getElem?_eq_some_iff.1 hl).1
  have im : imT stamp bd i = (dBk i stamp l).img := by
    unfold imT
    rw [if_pos hir, List.getD_eq_getElem?_getD, hl]
    rfl
  have rlo : ∀ x, rv.ownBlock = some x → W1.heap.size ≤ x ∧ x < wr.heap.size := fun x hx => World.ownsRow.lt hI.rf x hx
  have flo : ∀ x, fv.ownBlock = some x → W1.heap.size ≤ x ∧ x < wr.heap.size := fun x hx => own_blk hI.fs hx
  have B45 : Below W4.heap.size W4 (W4.alloc (.cells #[.int .i64 ((i : Int) + 1), .int .i64 stamp] 57)) := (Below.refl _ _).alloc (Nat.le_refl _) _
  have B25 := hB4.trans (B45.mono hB4.size)
  have cr : (W4.alloc (.cells #[.int .i64 ((i : Int) + 1), .int .i64 stamp] 57)).rangeAt W4.heap.size 0 (twoC ((i : Int) + 1) stamp) := (Rec19.new W4 57 (twoC ((i : Int) + 1) stamp)).1
  generalize W4.alloc (.cells #[.int .i64 ((i : Int) + 1), .int .i64 stamp] 57) = W5 at *
  have s1 := hI.off.size
  have s2 := hO2.size
  have s5 := B25.size
  have n4 : ∀ x, x ∉ [g, d, s, m, b, mm] → x ∉ [g, d, s, m] := fun x h q => h (by simp only [List.mem_cons, List.not_mem_nil, or_false] at q ⊢; omega)
  have rn : ∀ x, rv.ownBlock = some x → x ∉ [g, d, s, m] := fun x hx => n4 x (hI.apr x hx).1
  have fn : ∀ x, fv.ownBlock = some x → x ∉ [g, d, s, m] := fun x hx => n4 x (hI.apf x hx)
  have rf5 : OwnI W5 W1.heap.size 57 2 rv i (rfF stamp) := row_off (row_off hI.rf hO2 rn) (Off.of (bs := []) B25) (fun _ _ h => by cases h)
  have fs5 : Own W5 W1.heap.size fv (idxL ((bd.take i).map hdK)).length (nF (idxL ((bd.take i).map hdK))) := (hI.fs.offU hO2 fn).below B25
  have pbn : pb ∉ [g, d, s, m] := fun q => by
    simp only [List.mem_cons, List.not_mem_nil, or_false, not_or] at hpn q
    rcases hI.mo with e | e <;> omega
  have l5 : Lies W5 pb 0 (bodL l).length (nF (bodL l)) := by
    have : Lies W2 pb 0 (bodL l).length (nF (bodL l)) := ⟨fun j hj => (hO2.cell (p := ⟨pb, 0 + j, none⟩) hll.2.2 pbn).trans (hll.1 j hj), hll.2.1, Nat.lt_of_lt_of_le hll.2.2 s2⟩
    exact this.below B25
  have N5 := hN2.below B25
  obtain ⟨a1, n1, C1, W6, hr6, o6, off6, blk6⟩ := app_refU 66 W5 W1.heap.size i W4.heap.size 1 rv (rfF stamp) ((i : Int) + 1) stamp rf5 hI.nil cr (by omega) (by omega)
  have s6 := off6.size
  have l6 : Lies W6 pb 0 (bodL l).length (nF (bodL l)) := ⟨fun j hj => (off6.cell (p := ⟨pb, 0 + j, none⟩) l5.2.2 (fun q => by have : W1.heap.size ≤ pb := (rlo _ (mem_own q)).1; omega)).trans (l5.1 j hj), l5.2.1, Nat.lt_of_lt_of_le l5.2.2 s6⟩
  obtain ⟨r, hr⟩ := pf_of_bod hne
  rw [hr] at l6
  have lf := lies_front l6
  have fs6 := fs5.offU off6 (fun x hx q => (hI.apr x (mem_own q)).2 hx)
  have lp : (pfL (hdK l)).length = 1 + (hdK l).size := pfL_len _
  obtain ⟨v7, W7, hr7, o7, off7, blk7, _⟩ := app_nF 23 W6 W1.heap.size pC pb 0 fv _ (pfL (hdK l)) fs6 lf (by omega) (by omega) (by omega)
  obtain ⟨a2, n2, C2, rfl⟩ := own_sl o7
  have s7 := off7.size
  have new6 : ∀ x, x ∉ [g, d, s, m, b, mm] → W1.heap.size ≤ x → x < wr.heap.size → x ∉ [g, d, s, m2, b2, mm] := fun x h _ hx q => by
    simp only [List.mem_cons, List.not_mem_nil, or_false, not_or] at q h
    obtain ⟨h1, h2, h3, h4, h5, h6⟩ := h
    rcases q with q | q | q | q | q | q
    · exact h1 q
    · exact h2 q
    · exact h3 q
    · rcases hm2 with e | e
      · exact h4 (q.trans e)
      · omega
    · omega
    · exact h6 q
  have N6 := N5.offN off6 (fun c hc => ⟨new6 c (hI.apr c (mem_own hc)).1 (rlo c (mem_own hc)).1 (rlo c (mem_own hc)).2, by have := (rlo c (mem_own hc)).1; omega⟩)
  have N7 := N6.offN off7 (fun c hc => ⟨new6 c (hI.apf c (mem_own hc)) (flo c (mem_own hc)).1 (flo c (mem_own hc)).2, by have := (flo c (mem_own hc)).1; omega⟩)
  refine ⟨a1, n1, C1, W6, a2, n2, C2, W7, hr6, ?_, hr7, ⟨?_, ?_, ?_, ?_, ?_, fun h => by omega, fun x hx => ⟨?_, fun hy => ?_⟩, fun x hx => ?_⟩⟩
  · exact lf.1 0 (by omega)
  · show GNew w0 W7 g d s m2 b2 mm (wrD (wrK (dsk0 (104 + 4 * n)) (imT stamp bd) i) i (imT stamp bd i)) n (acqH (hK n i) (some i))
    rw [im]
    exact N7
  · have o1 : Off [g, d, s, m0] W1 W2 := hI.off.far hO2 (fun c hc => by
      simp only [List.mem_cons, List.not_mem_nil, or_false] at hc ⊢
      rcases hI.mo with e | e <;> omega)
    have o5 := o1.trans (Off.of B25)
    have o6' := o5.far off6 (fun c hc => .inr (rlo c (mem_own hc)).1)
    exact o6'.far off7 (fun c hc => .inr (flo c (mem_own hc)).1)
  · rcases hm2 with e | e
    · rw [e]; exact hI.mo
    · exact .inr (by omega)
  · refine row_off (OwnI.congr o6 (rfF_next stamp i)) off7 (fun x hx q => ?_)
    rcases blk6 x hx with z | z
    · exact (hI.apr x z).2 (mem_own q)
    · have := (flo x (mem_own q)).2; omega
  · refine own_nF o7 ?_
    rw [take_hd bd i l hl, idxL_app, idxL_one]
  · rcases blk6 x hx with z | z
    · exact new6 x (hI.apr x z).1 (rlo x z).1 (rlo x z).2
    · intro q
      have := N5.lt x q
      omega
  · rcases blk7 x hy with y | y
    · rcases blk6 x hx with z | z
      · exact (hI.apr x z).2 y
      · have := (flo x y).2; omega
    · have := (World.ownsRow.lt o6 x hx).2; omega
  · rcases blk7 x hx with z | z
    · exact new6 x (hI.apf x z) (flo x z).1 (flo x z).2
    · intro q
      have := N6.lt x q
      omega
theorem xwr_last {w0 W W1 wr : World} {g d s m0 b0 mm n base k m b : Nat} {stamp : Int} {bd : List (List Pr)} {rv fv : Value} (hI : WrI w0 W1 wr g d s m0 mm n stamp bd k m b rv fv) (hk : k = bd.length) (h1 : 1 ≤ k) (hk2 : k ≤ 16) (hkn : k < n) (hn : n ≤ 512) (hT : DTab w0) (h0 : 0 < w0.heap.size) (hs : 0 ≤ stamp ∧ stamp ≤ 1073741824) (hh : ∀ q ∈ bd.map hdK, 0 < q.size ∧ q.size ≤ 32)
    (hw : w0.heap.size ≤ W.heap.size) (hE : Below W.heap.size W W1) (hP : Rec19 W1 W.heap.size 0 (twoC 0 0)) (hx : ∀ x, x ∈ [g, d, s, m0, b0, mm] → x < base) (hb : base ≤ W.heap.size) :
    ∃ x xC y yn yC, rv = .slice (some ⟨x, 0, none⟩) k xC ∧ fv = .slice (some ⟨y, 0, none⟩) yn yC ∧ Calls Tryz.prog 73 #[.pointer (some ⟨g, 0, none⟩), .int .i64 2, .slice (some ⟨x, 0, none⟩) k xC, .slice (some ⟨y, 0, none⟩) yn yC, .int .i64 stamp] wr (fun e w2 => e = .returned (.tuple #[.agg (twoC ((k : Int) + 1) stamp).toArray, .int .i64 0]) ∧ Rec19 w2 W.heap.size 0 (twoC 0 0) ∧ ∀ w3, But W.heap.size w2 w3 → ∃ b' m', GNew w0 w3 g d s m' b' mm (wrK (dsk0 (104 + 4 * n)) (imT stamp bd) (k + 1)) n (hK n (k + 1)) ∧ Off [g, d, s, m0] W w3 ∧ (m' = m0 ∨ W.heap.size ≤ m') ∧ W.heap.size ≤ b') := by
  obtain ⟨x, xC, hrv, hxb, hxk, hxc, hxl⟩ := hI.rf.form (by omega)
  have ks : (bd.take k).map hdK = bd.map hdK := by rw [hk, List.take_length]
  have fs := hI.fs
  rw [ks] at fs
  have lp : 0 < (idxL (bd.map hdK)).length := by
    cases bd with
    | nil => simp at hk; omega
    | cons l r =>
      rw [List.map_cons, show idxL (hdK l :: r.map hdK) = pfL (hdK l) ++ idxL (r.map hdK) from rfl, List.length_append, pfL_len]
      omega
  obtain ⟨y, yC, hfv, hyb, hyn, hyl⟩ := fs.form lp (nF_byte _ (idx_bytes (fun q hq => by have := (hh q hq).2; omega)))
  refine ⟨x, xC, y, _, yC, hrv, hfv, ?_⟩
  have im : imT stamp bd k = (xBk k stamp (bd.map hdK)).img := by
    unfold imT
    rw [if_neg (by omega), hk]
  refine (gw_new w0 wr g d s m b mm n k _ _ 2 stamp (some ⟨x, 0, none⟩) (some ⟨y, 0, none⟩) k xC _ yC (rfF stamp) (nF (idxL (bd.map hdK))) hI.nw (wrK_free _ k (by omega)) hT h0 (hK_low n k hkn hn) (by rw [wrK_N]; exact Nat.le_refl _) (.inr ⟨x, 0, rfl, fun j hj => by rw [Nat.zero_add]; exact hxc j (by omega), hxl⟩) hxk (Arg.of hyl) hyn (xBk_may hk2 hs (by rw [List.length_map]; exact hk.symm) (fun q hq => (hh q hq).2))).mono ?_
  rintro e w2 ⟨rfl, b', m', hN, hm, hb', hO⟩
  have g0 : ∀ z, z ∈ [g, d, s, m0] → z < base := fun z hz => hx z (by simp only [List.mem_cons, List.not_mem_nil, or_false] at hz ⊢; omega)
  have q1 : W.heap.size ∉ [g, d, s, m0] := fun q => by have := g0 _ q; omega
  have zl := hP.2.2
  have s1 := hI.off.size
  have q2 : W.heap.size ∉ [g, d, s, m] := fun q => by
    simp only [List.mem_cons, List.not_mem_nil, or_false, not_or] at q1 q
    rcases hI.mo with e | e
    · rw [e] at q; omega
    · omega
  refine ⟨rfl, (hP.off hI.off q1).off hO q2, fun w3 hB => ⟨b', m', ?_, ?_, ?_, by omega⟩⟩
  · show GNew w0 w3 g d s m' b' mm (wrD (wrK (dsk0 (104 + 4 * n)) (imT stamp bd) k) k (imT stamp bd k)) n (acqH (hK n k) (some k))
    rw [im]
    refine hN.offN (Off.but (bs := [W.heap.size]) hB (by simp)) (fun c hc => ?_)
    obtain rfl : c = W.heap.size := by simpa using hc
    refine ⟨fun q => ?_, hw⟩
    have q3 : ∀ z, z ∈ [g, d, s, mm] → z ≠ W.heap.size := fun z hz e => by
      have := hx z (by simp only [List.mem_cons, List.not_mem_nil, or_false] at hz ⊢; omega)
      omega
    simp only [List.mem_cons, List.not_mem_nil, or_false, not_or] at q q2
    rcases q with q | q | q | q | q | q
    · exact q2.1 q
    · exact q2.2.1 q
    · exact q2.2.2.1 q
    · rcases hm with e | e
      · exact q2.2.2.2 (q.trans e)
      · omega
    · omega
    · exact q3 mm (by simp) q.symm
  · have o1 : Off [g, d, s, m0] W wr := (Off.of hE).trans hI.off
    have o2 := o1.far hO (fun c hc => by
      have := hE.size
      simp only [List.mem_cons, List.not_mem_nil, or_false] at hc ⊢
      rcases hI.mo with e | e
      · rw [e] at hc; omega
      · rcases hc with h | h | h | h
        · exact .inl (.inl h)
        · exact .inl (.inr (.inl h))
        · exact .inl (.inr (.inr (.inl h)))
        · exact .inr (by omega))
    exact o2.far (Off.but (bs := [W.heap.size]) hB (by simp)) (fun c hc => .inr (by simp at hc; omega))
  · rcases hm with e | e
    · rcases hI.mo with e' | e'
      · exact .inl (e.trans e')
      · exact .inr (by omega)
    · exact .inr (by omega)
end Go.Proofs.YtblphlcnbnklmaaGreatDoor
namespace Go.Proofs.YtblphlcnbnklmaaGreatDoor
open Go.RowKit Go.Maps
attribute [-go_sem] Builtin.append_
/-- What write answers. -/
def WtP (w0 W : World) (g d s m0 mm n : Nat) (stamp : Int) (bd : List (List Pr)) (e : Ending) (w' : World) : Prop := e = .returned (.tuple #[.agg (twoC ((bd.length : Int) + 1) stamp).toArray, .int .i64 0]) ∧ ∃ b' m', GNew w0 w' g d s m' b' mm (wrK (dsk0 (104 + 4 * n)) (imT stamp bd) (bd.length + 1)) n (hK n (bd.length + 1)) ∧ Off [g, d, s, m0] W w' ∧ (m' = m0 ∨ W.heap.size ≤ m') ∧ W.heap.size ≤ b'
/-- What the walk needs of a round. -/
theorem wr_first (K N pb n pC : Nat) (hK : 1 + K = N) (hN : N ≤ n) (hC : n ≤ pC) (hs : K ≤ 32) : (0 : Int) < (n : Int) ∧ IntKind.i64.wrap (K : Int) = (K : Int) ∧ wrap64 (K : Int) = (K : Int) ∧ IntKind.i64.wrap (1 + (K : Int)) = 1 + (K : Int) ∧ wrap64 (1 + (K : Int)) = 1 + (K : Int) ∧ (∀ w, (Instr.slice 23 (.slice (some ⟨pb, 0, none⟩) n pC) none (some (.int .i64 (1 + (K : Int)))) none).run Tryz.prog w = .ok (.slice (some ⟨pb, 0, none⟩) N pC) w) := by
  refine ⟨by omega, by rw [IntKind.wrap_i64]; omega, by unfold wrap64; omega, by rw [IntKind.wrap_i64]; omega, by unfold wrap64; omega, fun w => ?_⟩
  have := run_slice_high 23 5 Tryz.underlying23 1 (by obtain ⟨i0, hi, _, hz1, _⟩ := info_parts info_u8; simp [hi, hz1]) pb 0 n pC N (by omega) w
  rwa [show ((N : Nat) : Int) = 1 + (K : Int) by omega] at this
theorem bods_at {W : World} {base k C i : Nat} {ls : List Pr} {a : Option Addr} {bs : List BV} (h : Bods W base ls a k C bs) (hi : i < k) : ∃ rb pb pC l, a = some ⟨rb, 0, none⟩ ∧ W.cell? ⟨rb, i, none⟩ = some (.slice (some ⟨pb, 0, none⟩) (bodL l).length pC) ∧ rb < W.heap.size ∧ base ≤ rb ∧ (packG [] ls)[i]? = some l ∧ (bodL l).length ≤ pC ∧ Lies W pb 0 (bodL l).length (nF (bodL l)) ∧ base ≤ pb := by
  obtain ⟨hk, ho, hm, hb⟩ := h
  have hx : i < bs.length := by omega
  have ex : bs[i]? = some bs[i] := List.getElem?_eq_getElem hx
  obtain ⟨pb, pC, h1, h2, h3, h4, _⟩ := hb bs[i] (List.getElem_mem hx)
  have e2 : (bs.map BV.L)[i]? = some bs[i].L := by rw [List.getElem?_map, ex]; rfl
  rw [hm, List.getElem?_map] at e2
  cases hl : (packG [] ls)[i]? with
  | none => rw [hl] at e2; cases e2
  | some l =>
    rw [hl] at e2
    injection e2 with e2
    rw [← e2] at h1 h2 h3
    rcases ho.2 with ⟨_, h0⟩ | ⟨g, cap, cur, hv, hbg, hg, hnc, hcm, hsz, htake⟩
    · omega
    · injection hv with hv _ _
      refine ⟨g, pb, pC, l, hv, ?_, (Array.getElem?_eq_some_iff.1 hg).1, hbg, rfl, h2, h3, h4⟩
      subst hv
      have := World.ownsRow.cellAt ho i (by omega)
      rw [this, List.getElem?_map, ex]
      show some bs[i].v = _
      rw [h1]
theorem heads_small {ls : List Pr} (hm : ∀ p ∈ ls, may p) (hl : ls ≠ []) : ∀ k ∈ (packG [] ls).map hdK, 0 < k.size ∧ k.size ≤ 32 := fun k hk => by
  obtain ⟨l, hlm, rfl⟩ := List.mem_map.1 hk
  have hne := (pack_ok ls [] hm (by simp [bodL]) (.inr ⟨rfl, hl⟩) l hlm).2
  obtain ⟨p, r, rfl⟩ := List.exists_cons_of_ne_nil hne
  have hp : p ∈ ls := by
    have := pack_flat ls []
    simp only [List.nil_append] at this
    rw [← this]
    exact List.mem_flatten.2 ⟨_, hlm, List.mem_cons_self ..⟩
  have := hm p hp
  exact ⟨this.1, this.2.1⟩
theorem head_small {ls l : List Pr} {i : Nat} (h : ∀ k ∈ (packG [] ls).map hdK, 0 < k.size ∧ k.size ≤ 32) (hl : (packG [] ls)[i]? = some l) : (hdK l).size ≤ 32 ∧ 0 < (hdK l).size := by
  have := h (hdK l) (List.mem_map.2 ⟨l, List.mem_of_getElem? hl, rfl⟩)
  exact ⟨this.2, this.1⟩
theorem heads_few {ls : List Pr} (i : Nat) (h : ∀ k ∈ (packG [] ls).map hdK, 0 < k.size ∧ k.size ≤ 32) (hi : i ≤ 16) : (idxL (((packG [] ls).take i).map hdK)).length ≤ 860 := by
  have := idx_small (((packG [] ls).take i).map hdK) (fun k hk => (h k (by obtain ⟨l, hl, rfl⟩ := List.mem_map.1 hk; exact List.mem_map.2 ⟨l, List.mem_of_mem_take hl, rfl⟩)).2)
  rw [List.length_map, List.length_take] at this
  omega
theorem not_grid {base pb g d s m0 b0 mm : Nat} (h : ∀ x, x ∈ [g, d, s, m0, b0, mm] → x < base) (hb : base ≤ pb) : pb ∉ [g, d, s, m0] := fun q => by
  have := h pb (by simp only [List.mem_cons, List.not_mem_nil, or_false] at q ⊢; omega)
  omega
theorem few_i {i k n : Nat} {p q : Prop} (h : i < k) (hn : k < n ∧ k ≤ 16 ∧ p ∧ q) : i ≤ 1000 ∧ i ≤ 16 := by omega
set_option maxRecDepth 100000 in
set_option maxHeartbeats 4000000 in
theorem xwrite_ok (w0 W : World) (g d s m0 b0 mm n base k C : Nat) (stamp : Int) (ls : List Pr) (a : Option Addr) (bs : List BV) (hN : GNew w0 W g d s m0 b0 mm (dsk0 (104 + 4 * n)) n (iniH n)) (hT : DTab w0) (h0 : 0 < w0.heap.size) (hb : ∀ x, x ∈ [g, d, s, m0, b0, mm] → x < base) (hB : Bods W base ls a k C bs) (hm : ∀ p ∈ ls, may p) (hl : ls ≠ []) (hk : k < n) (hk2 : k ≤ 16) (hs : 0 ≤ stamp ∧ stamp ≤ 1073741824) :
    Calls Tryz.prog 79 #[.pointer (some ⟨g, 0, none⟩), .slice a k C, .int .i64 stamp] W (WtP w0 W g d s m0 mm n stamp (packG [] ls)) := by
  have hkl : k = (packG [] ls).length := by have := congrArg List.length hB.2.2.1; rw [List.length_map, List.length_map] at this; rw [← this]; exact hB.1
  have n2 := hN.ok.n2
  have HB := hidIt hB
  have HN := hidIt (And.intro hk (And.intro hk2 (And.intro n2 hkl)))
  have HT := hidIt (And.intro hT h0)
  have HS := hidIt hs
  have HX := hidIt hb
  have HG := hidIt hN
  have PO := hidIt (pack_ok ls [] hm (by simp [bodL]) (.inr ⟨rfl, hl⟩))
  have FL := hidIt (pack_flat ls [])
  have HM := hidIt hm
  have HH := hidIt (heads_small hm hl)
  clear hN hT h0 hb hB hm hl hk hk2 hs n2 hkl
  have T1 : Hid True := trivial
  go_enter Tryz.func79, Tryz.ntmps79
  go_wp2_with (first
    | (have _q := T1; clear T1; refine wpList_alloc_rec rfl 57 rfl (twoC 0 0) W.heap.size rfl zero_ref ?_; intro W1 R1 B1 z1; have E1 := hidIt B1; have P1 := hidIt R1; clear R1 B1 z1 _q; refine Held.out ?_))
  have ST : Hid (WrI w0 W1 W1 g d s m0 mm n stamp (packG [] ls) 0 m0 b0 (.slice none 0 0) (.slice none 0 0)) := hidIt ⟨HG.out.below E1.out, Off.refl _ _, .inl rfl, OwnI.nil _ _ _ _ _, Own.nil _ _ _, fun _ => rfl, fun x hx => (by cases hx), fun x hx => (by cases hx)⟩
  have Z1 := hidIt (And.intro E1.out.size P1.out.2.2)
  refine Held.mk ?_
  go_wp2_with fail
  go_loopw [8, 9, 16] (fun rv fv iv wr => ∃ i m b : Nat, i ≤ k ∧ iv = .int .i64 (i : Int) ∧ Hid (WrI w0 W1 wr g d s m0 mm n stamp (packG [] ls) i m b rv fv)) (fun _ _ iv _ => k - (RowKit.intOf iv).toNat)
  case atStart => exact ⟨0, m0, b0, Nat.zero_le _, rfl, ST⟩
  case round =>
    clear ST
    obtain ⟨i, m, b, hi, rfl, hI⟩ := hrel
    have wlt : ∀ x, x < base → x < W.heap.size → W1.heap.size ≤ wr.heap.size := fun _ _ _ => hI.out.off.size
    clear wlt
    by_cases hlt : i < k
    · obtain ⟨rb, pb, pC, l, rfl, hc, hrb, hrb2, hl, hlC, hll, hpb⟩ := bods_at HB.out hlt
      have offB : ∀ x, base ≤ x → x ∉ [g, d, s, m0] := fun x hx hm => by
        have := HX.out x (by simp only [List.mem_cons, List.not_mem_nil, or_false] at hm ⊢; omega)
        omega
      have hcw : wr.cell? ⟨rb, i, none⟩ = some (.slice (some ⟨pb, 0, none⟩) (bodL l).length pC) := (hI.out.off.cell (p := ⟨rb, i, none⟩) (Nat.lt_of_lt_of_le hrb E1.out.size) (offB rb hrb2)).trans ((E1.out.cell (p := ⟨rb, i, none⟩) hrb).trans hc)
      have llw : Lies wr pb 0 (bodL l).length (nF (bodL l)) := ⟨fun j hj => (hI.out.off.cell (p := ⟨pb, 0 + j, none⟩) (Nat.lt_of_lt_of_le hll.2.2 E1.out.size) (offB pb hpb)).trans ((E1.out.cell (p := ⟨pb, 0 + j, none⟩) hll.2.2).trans (hll.1 j hj)), hll.2.1, Nat.lt_of_lt_of_le hll.2.2 (Nat.le_trans E1.out.size hI.out.off.size)⟩
      have lm : l ∈ packG [] ls := List.mem_of_getElem? hl
      have lok := PO.out l lm
      have lmay : ∀ p ∈ l, may p := fun p hp => HM.out p (by have := FL.out; simp only [List.nil_append] at this; rw [← this]; exact List.mem_flatten.2 ⟨l, lm, hp⟩)
      have LW := hidIt (And.intro llw (And.intro hlC (And.intro lok (And.intro lmay (And.intro hl (And.intro hpb hll.2.2))))))
      have LT := hidIt hlt
      have GW := hidIt (gw_new w0 wr g d s m b mm n i _ _ 1 stamp none (some ⟨pb, 0, none⟩) 0 0 (bodL l).length pC (fun _ => 0) (nF (bodL l)) hI.out.nw (wrK_free _ i (by have := HN.out; omega)) HT.out.1 HT.out.2 (hK_low n i (by have := HN.out; omega) HN.out.2.2.1) (by rw [wrK_N]; exact Nat.le_refl _) (.inl rfl) (Nat.le_refl _) (Arg.of llw) hlC (dBk_may (by have := HN.out; omega) HS.out lok.1))
      obtain ⟨i0, i1, i2, i3⟩ := k_ar i k hlt (by have := HN.out; omega)
      clear hc hrb hl hll llw lm lok lmay offB hlt hi hlC
      go_wp2_with (first
        | (go_at_call 73; refine GW.out.mono ?_; rintro e W2 ⟨rfl, b2, m2, hN2, hm2, hb2, hO2⟩; have N2 := hidIt (And.intro hN2 (And.intro hm2 (And.intro hb2 hO2))); clear hN2 hm2 hb2 hO2)
        | (have _q := N2; refine wpList_alloc_rec rfl 57 rfl (twoC 0 0) W2.heap.size rfl zero_ref ?_; intro W3 R3 B3 z3; have E3 := hidIt B3; have P3 := hidIt R3; clear R3 B3 z3 _q)
        | (refine wpList_store_rec rfl 57 (.tmp 12) (.tmp 25) rfl W2.heap.size 0 _ (twoC ((i : Int) + 1) stamp) rfl rfl P3.out rfl (by kernel_rfl) (twoC_one _ _) ?_; intro W4 R4 B4; have E4 := hidIt (E3.out.trans (B4.below (Nat.le_refl _) E3.out.size)); have P4 := hidIt R4; clear R4 B4; refine Held.out ?_))
      have hz := hidIt (head_small HH.out LW.out.2.2.2.2.1)
      have fw := hidIt (few_i LT.out HN.out)
      obtain ⟨a1, n1, C1, W6, a2, n2, C2, W7, hr6, k6, hr7, hI7⟩ := xwr_round (pC := pC) hI.out (Nat.le_trans HG.out.st.bel.size E1.out.size) N2.out.1 N2.out.2.1 N2.out.2.2.1 N2.out.2.2.2 E4.out LW.out.2.2.2.2.1 LW.out.2.2.1.2 fw.out.1 LW.out.1 (Nat.lt_of_lt_of_le LW.out.2.2.2.2.2.2 E1.out.size) (not_grid HX.out LW.out.2.2.2.2.2.1) hz.out (Nat.le_trans (heads_few i HH.out fw.out.2) (by decide))
      have NX := hidIt hI7
      have lpf : (pfL (hdK l)).length ≤ (bodL l).length := by
        obtain ⟨r, hr⟩ := pf_of_bod LW.out.2.2.1.2
        rw [hr, List.length_append]
        omega
      have lpe := pfL_len (hdK l)
      obtain ⟨j0, j1, j2, j3, j4, j5⟩ := wr_first (hdK l).size (pfL (hdK l)).length pb (bodL l).length pC lpe.symm lpf LW.out.2.1 hz.out.1
      clear hI7 lpf lpe GW
      generalize (pfL (hdK l)).length = pn at *
      generalize (hdK l).size = kn at *
      refine Held.mk ?_
      go_wp2_with (first
        | (refine wpList_load_rec rfl 57 (.tmp 12) rfl W2.heap.size 0 (twoC ((i : Int) + 1) stamp) rfl _ Tryz.underlying57 rfl (by kernel_rfl) P4.out ?_)
        | (refine wpList_run_w rfl (.slice (some ⟨W4.heap.size, 0, none⟩) 1 1) (W4.alloc (.cells #[.int .i64 ((i : Int) + 1), .int .i64 stamp] 57)) (bsl_run 66 57 1 _ rfl 2 16 _ _ _ Tryz.underlying66 ref_info (by decide) (by decide) rfl (by kernel_rfl)) ?_))
      exact ⟨⟨i + 1, m2, b2, LT.out, rfl, NX⟩, meas_k k i _ rfl LT.out⟩
    · obtain rfl : i = k := by omega
      have i0 : ((i : Int) < (i : Int)) = False := eq_false (by omega)
      have k1 : 1 ≤ i := by
        have := List.length_pos_iff.2 (pack_ne ls [])
        have := HN.out.2.2.2
        omega
      obtain ⟨rb, _, _, _, _, _, hrb, hrb2, _⟩ := bods_at HB.out (show 0 < i by omega)
      obtain ⟨x, xC, y, yn, yC, rfl, rfl, hGW⟩ := xwr_last hI.out HN.out.2.2.2 k1 HN.out.2.1 HN.out.1 HN.out.2.2.1 HT.out.1 HT.out.2 HS.out HH.out HG.out.st.bel.size E1.out P1.out HX.out (by omega)
      have GW := hidIt hGW
      have HK := hidIt HN.out.2.2.2
      clear hGW k1 hrb hrb2 hlt hi
      go_wp2_with (first
        | (go_at_call 73; refine GW.out.mono ?_; rintro e W2 ⟨rfl, hP2, hF2⟩; have P2 := hidIt hP2; have F2 := hidIt hF2; clear hP2 hF2)
        | (refine wpList_store_rec rfl 57 (.tmp 6) (.tmp 50) rfl W.heap.size 0 _ (twoC ((i : Int) + 1) stamp) rfl rfl P2.out rfl (by kernel_rfl) (twoC_one _ _) ?_; intro W3 R3 B3; have P3 := hidIt R3; have F3 := hidIt (F2.out W3 B3); clear R3 B3))
      have hl := P3.out.run_load 57 _ Tryz.underlying57 rfl (by kernel_rfl)
      refine bodyPost_ret (v := .tuple #[.agg (twoC ((i : Int) + 1) stamp).toArray, .int .i64 0]) (by simp [results, Tryz.results79, asAddr, hl]) rfl ⟨by rw [HK.out], by rw [← HK.out]; exact F3.out⟩
end Go.Proofs.YtblphlcnbnklmaaGreatDoor
namespace Go.Proofs.YtblphlcnbnklmaaGreatDoor
open Go.RowKit Go.Maps
attribute [-go_sem] Builtin.append_
set_option maxRecDepth 100000 in
theorem gcounts_ok (W : World) (g d n b mm : Nat) (v : Value) (h : Nat → Nat) (hG : GAt W g d n b v mm) (hA : SAt W b n h) (hO : SOk n h) : Calls Tryz.prog 39 #[.pointer (some ⟨g, 0, none⟩)] W fun e w' => e = .returned (.tuple #[.int .i64 ((cnt h 0 n : Nat) : Int), .int .i64 ((cnt h 1 n : Nat) : Int), .int .i64 ((cnt h 2 n : Nat) : Int)]) ∧ Below W.heap.size W w' := by
  have M := hidIt (gmade_ok W g d n b mm v hG)
  have C := hidIt (counts_ok W b n h hA hO)
  have c3 := hG.c3
  clear hG hA hO
  generalize cnt h 0 n = x0 at *
  generalize cnt h 1 n = x1 at *
  generalize cnt h 2 n = x2 at *
  go_enter Tryz.func39, Tryz.ntmps39
  go_wp2_with (first
    | (go_at_call 88; refine M.out.mono ?_; rintro e w1 ⟨rfl, hw⟩; rw [hw]; clear hw w1)
    | (go_at_call 89; refine C.out.mono ?_; rintro e w2 ⟨rfl, hB⟩; have B2 := hidIt hB; clear hB))
  exact bodyPost_ret (v := .tuple #[.int .i64 ((x0 : Nat) : Int), .int .i64 ((x1 : Nat) : Int), .int .i64 ((x2 : Nat) : Int)]) (by simp [results, Tryz.results39, go_sem]) rfl ⟨rfl, B2.out⟩
/-- What bytes.Clone answers. -/
def YcP (W : World) (t : ByteArray) (e : Ending) (w' : World) : Prop := ∃ a C, e = .returned (.slice a t.size C) ∧ (∀ N : List Nat, (∀ b, b ∈ N → b < W.heap.size) → Txt w' N (.slice a t.size C) t) ∧ Below W.heap.size W w'
theorem eqb_nil (a : Addr) (n c : Nat) (w : World) : (binOp .eql 23 (.slice (some a) n c) (.slice none 0 0)).run Tryz.prog w = .ok (.bool false) w := by
  have h : (Op.equal 23 (.slice (some a) n c) (.slice none 0 0)).run Tryz.prog w = .ok false w := run_equal_slice_nil w 23 5 (some a) n c Tryz.underlying23
  simp only [binOp]
  simp [h]
theorem eqb_nil' (n c : Nat) (w : World) : (binOp .eql 23 (.slice none n c) (.slice none 0 0)).run Tryz.prog w = .ok (.bool true) w := by
  have h : (Op.equal 23 (.slice none n c) (.slice none 0 0)).run Tryz.prog w = .ok true w := run_equal_slice_nil w 23 5 none n c Tryz.underlying23
  simp only [binOp]
  simp [h]
set_option maxRecDepth 100000 in
theorem yclone_any {W : World} {N : List Nat} {s : Value} {t : ByteArray} (h : Txt W N s t) (hs : t.size ≤ 100000) : Calls Tryz.prog 80 #[s] W (YcP W t) := by
  obtain ⟨a, C, f, rfl, hA, ht, _⟩ := h
  cases a with
  | none =>
    have z : t.size = 0 := by
      rcases hA with ⟨h0, _⟩ | ⟨_, b, off, e, _⟩
      · exact h0
      · cases e
    have FIN : Hid (YcP W t (.returned (.slice none 0 0)) W) := hidIt ⟨none, 0, by rw [z], fun N _ => ⟨none, 0, f, rfl, .inl ⟨z, .inl rfl⟩, ht, fun h => by omega⟩, Below.refl _ _⟩
    have en := eqb_nil' 0 C W
    rw [z]
    clear hA ht hs z
    go_enter Tryz.func80, Tryz.ntmps80
    go_wp2_with fail
    exact bodyPost_ret (v := .slice none 0 0) (by simp [results, Tryz.results80, go_sem]) rfl FIN.out
  | some q =>
    have en := eqb_nil q t.size C W
    have A1 : Below W.heap.size W (W.alloc (.cells #[] 5)) := (Below.refl _ _).alloc (Nat.le_refl _) _
    obtain ⟨v', W2, hr, hO, hB⟩ := app_arg 23 (W.alloc (.cells #[] 5)) W.heap.size 0 t.size C _ _ _ f (Own.lit W W.heap.size 0 (fun _ => 0) (Nat.le_refl _) (by omega)) (hA.below A1) (by omega) A1.size
    have hO' := hO.congr (G := f) (fun j hj => by unfold cat; rw [if_neg (by omega)]; rfl)
    rw [Nat.zero_add] at hO'
    have hAb := hA.bytes
    obtain ⟨a', C', hv⟩ := own_slN hO'
    subst hv
    have TX : ∀ N : List Nat, (∀ b, b ∈ N → b < W.heap.size) → Txt W2 N (.slice a' t.size C') t := fun N hN => by
      refine ⟨a', C', f, rfl, ?_, ht, fun h0 q hq hm => ?_⟩
      rotate_left
      · obtain ⟨g, cap, e, hg, _, _⟩ := hO'.form h0 hAb
        injection e with e1 _ _
        rw [hq] at e1
        injection e1 with e1
        subst e1
        have := hN _ hm
        simp at this
        omega
      by_cases z : t.size = 0
      · exact .inl ⟨z, by cases a' with
          | none => exact .inl rfl
          | some p => exact .inr ⟨p, rfl⟩⟩
      · obtain ⟨g, cap, e, _, _, hL⟩ := hO'.form (by omega) hAb
        injection e with e1 _ _
        exact .inr ⟨by omega, g, 0, e1, hL⟩
    have FIN : Hid (YcP W t (.returned (.slice a' t.size C')) W2) := hidIt ⟨a', C', rfl, TX, A1.trans hB⟩
    clear hA ht hs hO hO' hAb TX hB A1
    go_enter Tryz.func80, Tryz.ntmps80
    go_wp2_with fail
    exact bodyPost_ret (v := .slice a' t.size C') (by simp [results, Tryz.results80, go_sem]) rfl FIN.out
end Go.Proofs.YtblphlcnbnklmaaGreatDoor
namespace Go.Proofs.YtblphlcnbnklmaaGreatDoor
open Go.RowKit Go.Maps
attribute [-go_sem] Builtin.append_
/-- A run's cells. -/
def runC (p q n : Int) (f l : Value) : List Value := [.int .i64 p, .int .i64 q, .int .i64 n, f, l]
theorem zero_run : (Tryz.prog.info? 74).bind (·.zero) = some (.agg (runC 0 0 0 (.slice none 0 0) (.slice none 0 0)).toArray) := by kernel_rfl
theorem run_size : (Tryz.prog.info? 74).map (·.size) = some 5 := by kernel_rfl
theorem runC_one (p q n : Int) (a b : Option Addr) (m C k D : Nat) : ∀ u ∈ runC p q n (.slice a m C) (.slice b k D), u.oneCell' = true := by
  intro u hu
  simp only [runC, List.mem_cons, List.not_mem_nil, or_false] at hu
  rcases hu with rfl | rfl | rfl | rfl | rfl <;> rfl
/-- What Build answers of pairs that a table may have. -/
def BldP (w0 W : World) (g d s m0 mm n : Nat) (stamp : Int) (ls : List Pr) (e : Ending) (w' : World) : Prop := ∃ a C b D, e = .returned (.tuple #[.agg (runC (((packG [] ls).length : Int) + 1) stamp (ls.length : Int) (.slice a (hdK ls).size C) (.slice b (hdK ls.reverse).size D)).toArray, .int .i64 0]) ∧ Txt w' [] (.slice a (hdK ls).size C) (hdK ls) ∧ Txt w' [] (.slice b (hdK ls.reverse).size D) (hdK ls.reverse) ∧
  ∃ b' m', GNew w0 w' g d s m' b' mm (wrK (dsk0 (104 + 4 * n)) (imT stamp (packG [] ls)) ((packG [] ls).length + 1)) n (hK n ((packG [] ls).length + 1)) ∧ Off [g, d, s, m0] W w' ∧ (m' = m0 ∨ W.heap.size ≤ m') ∧ W.heap.size ≤ b'
theorem cnt_new (n : Nat) : cnt (iniH n) 0 n = n ∧ cnt (iniH n) 1 n = 0 ∧ cnt (iniH n) 2 n = 0 := by
  have := cnt_hK n 0 (Nat.zero_le _) n (Nat.le_refl _)
  simpa [hK] using this
theorem hd_of {ps : List PV} {x : PV} (h : ps[0]? = some x) : hdK (ps.map PV.p) = x.p.k := by
  cases ps with
  | nil => cases h
  | cons y r => injection h with h; subst h; rfl
theorem last_of {ps : List PV} {x : PV} {n : Nat} (hn : ps.length = n) (h : ps[n - 1]? = some x) : hdK (ps.map PV.p).reverse = x.p.k := by
  have h0 : ps.reverse[0]? = some x := by
    rw [List.getElem?_reverse (by have := (List.getElem?_eq_some_iff.1 h).1; omega), hn, Nat.sub_zero]
    exact h
  rw [← List.map_reverse]
  exact hd_of h0
theorem bd_ar (n k : Nat) (hn : n ≤ 512) (h1 : 1 ≤ n) (h : k + 1 ≤ n) : wrap64 ((n : Int) + 0) = (n : Int) ∧ IntKind.i64.wrap (n : Int) = (n : Int) ∧ wrap64 (n : Int) = (n : Int) ∧ ((n : Int) == 0) = false ∧ ((n : Int) = 0) = False ∧ IntKind.i64.wrap ((k : Int) + 1) = (k : Int) + 1 ∧ wrap64 ((k : Int) + 1) = (k : Int) + 1 ∧ ((n : Int) < (k : Int) + 1) = False :=
  ⟨by unfold wrap64; omega, by rw [IntKind.wrap_i64]; omega, by unfold wrap64; omega, by rw [beq_eq_false_iff_ne]; omega, eq_false (by omega), by rw [IntKind.wrap_i64]; omega, by unfold wrap64; omega, eq_false (by omega)⟩
theorem bods_len {W : World} {base m C : Nat} {ls : List Pr} {a : Option Addr} {bs : List BV} (h : Bods W base ls a m C bs) : m = (packG [] ls).length := by
  have := congrArg List.length h.2.2.1
  rw [List.length_map, List.length_map] at this
  rw [← this]
  exact h.1
set_option maxRecDepth 100000 in
set_option maxHeartbeats 4000000 in
theorem xBuild_ok (w0 W : World) (g d s m0 b0 mm n q C : Nat) (stamp : Int) (a : Option Addr) (ps : List PV) (hN : GNew w0 W g d s m0 b0 mm (dsk0 (104 + 4 * n)) n (iniH n)) (hT : DTab w0) (h0 : 0 < w0.heap.size) (hq : ps.length = q) (hL : Lst W a ps) (hG : Good (ps.map PV.p)) (hpn : ∀ x ∈ ps, PVOk W [g, d, s, m0] x) (han : ∀ z, a = some z → z.block ∉ [g, d, s, m0]) (hk : (packG [] (ps.map PV.p)).length + 1 ≤ n) (hk2 : (packG [] (ps.map PV.p)).length ≤ 16) (hs : 0 ≤ stamp ∧ stamp ≤ 1073741824) :
    Calls Tryz.prog 27 #[.pointer (some ⟨g, 0, none⟩), .slice a q C, .int .i64 stamp] W (BldP w0 W g d s m0 mm n stamp (ps.map PV.p)) := by
  have n2 := hN.ok.n2
  have n1 := hN.ok.n1
  have q1 : 1 ≤ q ∧ q ≤ 64 := by have h1 := hG.1; have h2 := hG.2.1; rw [List.length_map] at h1 h2; omega
  have HN := hidIt hN
  have HT := hidIt (And.intro hT h0)
  have HL := hidIt hL
  have HG := hidIt hG
  have HP := hidIt (And.intro hpn han)
  obtain ⟨k, hkk⟩ : ∃ k, (packG [] (ps.map PV.p)).length = k := ⟨_, rfl⟩
  rw [hkk] at hk hk2
  have HK := hidIt (And.intro hk (And.intro hk2 hs))
  have HKK := hidIt hkk
  have HQ := hidIt (And.intro hq q1)
  have CN := cnt_new n
  obtain ⟨x0, hx0⟩ : ∃ x, ps[0]? = some x := ⟨_, List.getElem?_eq_getElem (by omega)⟩
  obtain ⟨x1, hx1⟩ : ∃ x, ps[q - 1]? = some x := ⟨_, List.getElem?_eq_getElem (by omega)⟩
  have HX := hidIt (And.intro hx0 hx1)
  have s1 : (stamp < 0) = False := eq_false (by omega)
  have s2 : (1073741824 < stamp) = False := eq_false (by omega)
  obtain ⟨i1, i2, i3, i4, i5, i6, i7, i8⟩ := bd_ar n k n2 n1 hk
  have lne : Hid (ps.map PV.p ≠ []) := hidIt fun e => by have := hG.1; rw [e] at this; simp at this
  clear hN hT h0 hL hG hpn han hk hk2 hs hq q1 n1 n2 hx0 hx1 hkk
  go_enter Tryz.func27, Tryz.ntmps27
  go_wp2_with (first
    | (refine wpList_alloc_rec rfl 74 rfl _ W.heap.size rfl zero_run ?_; intro W1 R1 B1 z1; have E1 := hidIt B1; have P1 := hidIt R1; clear R1 B1 z1)
    | (go_at_call 39; refine (gcounts_ok W1 g d n b0 mm _ (iniH n) (HN.out.ga.below E1.out) (HN.out.sa.below E1.out) HN.out.ok).mono ?_; rintro e W2 ⟨rfl, hB⟩; rw [CN.1, CN.2.1, CN.2.2]; have E2 := hidIt (E1.out.trans (hB.mono E1.out.size)); have P2 := hidIt (P1.out.below hB); have Z2 := hidIt hB.size; clear hB; refine Held.out ?_))
  clear CN
  have HLT := hidIt (fun x hx => Nat.lt_of_lt_of_le (HN.out.lt x hx) E2.out.size)
  refine Held.mk ?_
  go_wp2_with (first
    | (go_at_call 12; refine (xPack_any W2 a ps q C HQ.out.1 (HL.out.below E2.out) (Nat.le_trans HQ.out.2.2 (by decide))).mono ?_; rintro e W3 ⟨hb, hor⟩; obtain ⟨_, xa, m, xC, bs, rfl, hBd, _⟩ := hor.resolve_right (fun h => h.1 HG.out); obtain rfl : m = k := (bods_len hBd).trans HKK.out; have E3 := hidIt (E2.out.trans (hb.mono E2.out.size)); have P3 := hidIt (P2.out.below hb); have D3 := hidIt hBd; clear hb hBd; refine Held.out ?_))
  refine Held.mk ?_
  go_wp2_with (first
    | (go_at_call 79; refine (xwrite_ok w0 W3 g d s m0 b0 mm n W2.heap.size m xC stamp _ xa bs (HN.out.below E3.out) HT.out.1 HT.out.2 HLT.out D3.out HG.out.2.2.2 lne.out HK.out.1 HK.out.2.1 HK.out.2.2).mono ?_; rintro e W4 ⟨rfl, b', m', hN4, hO4, hm4⟩; rw [HKK.out]; have N4 := hidIt (And.intro hN4 hm4); have O4 := hidIt hO4; clear hN4 hO4 hm4; refine Held.out ?_))
  have g0 : ∀ z, W.heap.size ≤ z → z ∉ [g, d, s, m0] := fun z hz hm => by
    have := HN.out.lt z (by simp only [List.mem_cons, List.not_mem_nil, or_false] at hm ⊢; omega)
    omega
  have P3s := hidIt P3.out.2.2
  have P4 := hidIt (P3.out.off O4.out (g0 _ (Nat.le_refl _)))
  obtain ⟨b1, o1, ha, hr0, hb1⟩ := HL.out.at 0 x0 HX.out.1
  obtain ⟨b1', o1', ha', hr1, _⟩ := HL.out.at (q - 1) x1 HX.out.2
  rw [ha] at ha'
  injection ha' with ha'
  injection ha' with e1 e2
  subst e1 e2
  have nb := HP.out.2 _ ha
  subst ha
  have k0 : W4.cell? ⟨b1, o1, none⟩ = some x0.k := (O4.out.cell (p := ⟨b1, o1, none⟩) (Nat.lt_of_lt_of_le hb1 E3.out.size) nb).trans ((E3.out.cell (p := ⟨b1, o1, none⟩) hb1).trans (by have := hr0 0 _ rfl; simpa using this))
  have k1 : W4.cell? ⟨b1, o1 + (q - 1) * 3, none⟩ = some x1.k := (O4.out.cell (p := ⟨b1, o1 + (q - 1) * 3, none⟩) (Nat.lt_of_lt_of_le hb1 E3.out.size) nb).trans ((E3.out.cell (p := ⟨b1, o1 + (q - 1) * 3, none⟩) hb1).trans (hr1 0 _ rfl))
  have T0 := hidIt (((HP.out.1 x0 (List.mem_of_getElem? HX.out.1)).below E3.out).off O4.out).1.any
  have T1 := hidIt (((HP.out.1 x1 (List.mem_of_getElem? HX.out.2)).below E3.out).off O4.out).1.any
  have M0 := hidIt (HG.out.2.2.2 x0.p (List.mem_map.2 ⟨x0, List.mem_of_getElem? HX.out.1, rfl⟩)).2.1
  have M1 := hidIt (HG.out.2.2.2 x1.p (List.mem_map.2 ⟨x1, List.mem_of_getElem? HX.out.2, rfl⟩)).2.1
  have NM := hidIt (And.intro (hd_of HX.out.1) (last_of HQ.out.1 HX.out.2))
  have LN := hidIt (show (ps.map PV.p).length = q by rw [List.length_map]; exact HQ.out.1)
  have OW := hidIt ((Off.of (bs := [g, d, s, m0]) E3.out).trans O4.out)
  have w0W := hidIt HN.out.st.bel.size
  have BX := hidIt (fun z hz => g0 z hz)
  obtain ⟨r, hr⟩ : ∃ r, q = r + 1 := ⟨q - 1, by have := HQ.out.2.1; omega⟩
  have RL : Hid (r ≤ 100) := hidIt (by have := HQ.out.2.2; omega)
  subst hr
  rw [Nat.add_sub_cancel] at k1
  have f1 : wrap64 (r : Int) = (r : Int) := by have := RL.out; unfold wrap64; omega
  have f2 : IntKind.i64.wrap (r : Int) = (r : Int) := by have := RL.out; rw [IntKind.wrap_i64]; omega
  have f3 : (0 : Int) ≤ (r : Int) := by omega
  have f4 : (r : Int) < (r : Int) + 1 := by omega
  clear g0 hr0 hr1 hb1 nb P3 HX
  refine Held.mk ?_
  go_wp2_with (first
    | (refine wpList_alloc_rec rfl 57 rfl (twoC 0 0) W4.heap.size rfl zero_ref ?_; intro W5 R5 B5 z5; have E5 := hidIt B5; have Q5 := hidIt R5; clear R5 B5 z5)
    | (refine wpList_store_rec rfl 57 (.tmp 13) (.tmp 56) rfl W4.heap.size 0 _ (twoC ((m : Int) + 1) stamp) rfl rfl Q5.out rfl (by kernel_rfl) (twoC_one _ _) ?_; intro W6 R6 B6; have E6 := hidIt (E5.out.trans (B6.below (Nat.le_refl _) E5.out.size)); have Q6 := hidIt R6; clear R6 B6))
  have bl : b1 < W4.heap.size := World.block_lt_of_cell? W4 ⟨b1, o1, none⟩ k0
  have c0 : W6.cell? ⟨b1, o1, none⟩ = some x0.k := (E6.out.cell (p := ⟨b1, o1, none⟩) bl).trans k0
  have c1 : W6.cell? ⟨b1, o1 + r * 3, none⟩ = some x1.k := (E6.out.cell (p := ⟨b1, o1 + r * 3, none⟩) bl).trans k1
  clear k0 k1 bl
  refine wp_region_noPanic ?_
  refine wp_region_held_drew (S := fun w' => w'.cell? ⟨b1, o1, none⟩ = some x0.k ∧ w'.cell? ⟨b1, o1 + r * 3, none⟩ = some x1.k) (by kernel_rfl) ?_ (fun hHeld => ?_)
  · exact ⟨c0, c1⟩
  refine take_at (i := 0) (v := ?_) (some 62) rfl rfl (by kernel_rfl) (by kernel_rfl) (by kernel_rfl) (fun _ _ _ h => h) (Or.inl ⟨by rfl, ?_⟩) (by assumption) ?_
  rotate_left
  · (intro w hSw; (try dsimp only at hSw); go_simp; try with_reducible rfl)
  simp only [Act.put, List.setIfInBounds_toArray, List.set_cons_zero, List.set_cons_succ]
  refine take_at (i := 1) (v := ?_) (some 63) rfl rfl (by kernel_rfl) (by kernel_rfl) (by kernel_rfl) (fun _ _ _ h => h) (Or.inl ⟨by rfl, ?_⟩) (by assumption) ?_
  rotate_left
  · (intro w hSw; (try dsimp only at hSw); go_simp; try with_reducible rfl)
  simp only [Act.put, List.setIfInBounds_toArray, List.set_cons_zero, List.set_cons_succ]
  refine take_at (i := 2) (v := ?_) (some 64) rfl rfl (by kernel_rfl) (by kernel_rfl) (by kernel_rfl) (fun _ _ _ h => h) (Or.inl ⟨by rfl, ?_⟩) (by assumption) ?_
  rotate_left
  · (intro w hSw; (try dsimp only at hSw); go_simp; try with_reducible rfl)
  simp only [Act.put, List.setIfInBounds_toArray, List.set_cons_zero, List.set_cons_succ]
  refine take_at (i := 3) (v := ?_) (some 65) rfl rfl (by kernel_rfl) (by kernel_rfl) (by kernel_rfl) (fun _ _ _ h => h) (Or.inl ⟨by rfl, ?_⟩) (by assumption) ?_
  rotate_left
  · (intro w hSw; (try dsimp only at hSw); go_simp; try with_reducible rfl)
  simp only [Act.put, List.setIfInBounds_toArray, List.set_cons_zero, List.set_cons_succ]
  refine take_at (i := 4) (v := ?_) (some 66) rfl rfl (by kernel_rfl) (by kernel_rfl) (by kernel_rfl) (fun _ _ _ h => h) (Or.inl ⟨by rfl, ?_⟩) (by assumption) ?_
  rotate_left
  · (intro w hSw; (try dsimp only at hSw); go_simp; try with_reducible rfl)
  simp only [Act.put, List.setIfInBounds_toArray, List.set_cons_zero, List.set_cons_succ]
  refine take_at (i := 5) (v := ?_) (some 67) rfl rfl (by kernel_rfl) (by kernel_rfl) (by kernel_rfl) (fun _ _ _ h => h) (Or.inl ⟨by rfl, ?_⟩) (by assumption) ?_
  rotate_left
  · (intro w hSw; (try dsimp only at hSw); go_simp; try with_reducible rfl)
  simp only [Act.put, List.setIfInBounds_toArray, List.set_cons_zero, List.set_cons_succ]
  refine take_at (i := 6) (v := ?_) (some 68) rfl rfl (by kernel_rfl) (by kernel_rfl) (by kernel_rfl) (fun _ _ _ h => h) (Or.inl ⟨by rfl, ?_⟩) (by assumption) ?_
  rotate_left
  · (intro w hSw; (try dsimp only at hSw); go_simp; try with_reducible rfl)
  simp only [Act.put, List.setIfInBounds_toArray, List.set_cons_zero, List.set_cons_succ]
  refine take_at (i := 7) (v := ?_) (some 69) rfl rfl (by kernel_rfl) (by kernel_rfl) (by kernel_rfl) (fun _ _ _ h => h) (Or.inl ⟨by rfl, ?_⟩) (by assumption) ?_
  rotate_left
  · (intro w hSw; (try dsimp only at hSw); go_simp; try with_reducible rfl)
  simp only [Act.put, List.setIfInBounds_toArray, List.set_cons_zero, List.set_cons_succ]
  refine take_at (i := 8) (v := ?_) (some 70) rfl rfl (by kernel_rfl) (by kernel_rfl) (by kernel_rfl) (fun _ _ _ h => h) (Or.inl ⟨by rfl, ?_⟩) (by assumption) ?_
  rotate_left
  · (intro w hSw; (try dsimp only at hSw); go_simp; try with_reducible rfl)
  simp only [Act.put, List.setIfInBounds_toArray, List.set_cons_zero, List.set_cons_succ]
  refine take_at (i := 9) (v := ?_) (some 71) rfl rfl (by kernel_rfl) (by kernel_rfl) (by kernel_rfl) (fun _ _ _ h => h) (Or.inl ⟨by rfl, ?_⟩) (by assumption) ?_
  rotate_left
  · (intro w hSw; (try dsimp only at hSw); go_simp; try with_reducible rfl)
  simp only [Act.put, List.setIfInBounds_toArray, List.set_cons_zero, List.set_cons_succ]
  refine take_at (i := 10) (v := ?_) (some 72) rfl rfl (by kernel_rfl) (by kernel_rfl) (by kernel_rfl) (fun _ _ _ h => h) (Or.inl ⟨by rfl, ?_⟩) (by assumption) ?_
  rotate_left
  · (intro w hSw; (try dsimp only at hSw); go_simp; try with_reducible rfl)
  simp only [Act.put, List.setIfInBounds_toArray, List.set_cons_zero, List.set_cons_succ]
  refine take_at (i := 11) (v := ?_) (some 14) rfl rfl (by kernel_rfl) (by kernel_rfl) (by kernel_rfl) (fun _ _ _ h => h) (Or.inl ⟨by rfl, ?_⟩) (by assumption) ?_
  rotate_left
  · (intro w hSw; (try dsimp only at hSw); go_simp; try with_reducible rfl)
  simp only [Act.put, List.setIfInBounds_toArray, List.set_cons_zero, List.set_cons_succ]
  refine take_at (i := 12) (v := ?_) (some 15) rfl rfl (by kernel_rfl) (by kernel_rfl) (by kernel_rfl) (fun _ _ _ h => h) (Or.inl ⟨by rfl, ?_⟩) (by assumption) ?_
  rotate_left
  · (intro w hSw; (try dsimp only at hSw); go_simp; try with_reducible rfl)
  simp only [Act.put, List.setIfInBounds_toArray, List.set_cons_zero, List.set_cons_succ]
  refine wpAnyH_done (by kernel_rfl) ?_ _
  refine NoPanic.normal ?_
  have D7 : Below W6.heap.size W6 W6.drew := (Below.refl _ _).drew
  have Q7 := hidIt (Q6.out.below D7)
  have E7 := hidIt (E6.out.drew)
  clear D7 c0 c1 hHeld Q6 E6
  generalize W6.drew = W7 at *
  go_wp2_with fail
  refine wp_region_noPanic ?_
  refine wp_region_held_drew (S := fun w' => w'.rangeAt W4.heap.size 0 (twoC ((m : Int) + 1) stamp)) (by kernel_rfl) ?_ (fun hHeld => ?_)
  · exact (Q7.out.below (Below.refl _ _).drew).1
  refine take_at (i := 0) (v := _) (some 73) rfl rfl (by kernel_rfl) (by kernel_rfl) (by kernel_rfl) (fun _ _ _ h => h) (yieldsIf_load_mid (by rfl) _ _ rfl _ _ rfl _ _ (fun _ h => h) Tryz.underlying57 rfl (by kernel_rfl)) (by assumption) ?_
  simp only [Act.put, List.setIfInBounds_toArray, List.set_cons_zero, List.set_cons_succ]
  refine take_at (i := 1) (v := ?_) (some 74) rfl rfl (by kernel_rfl) (by kernel_rfl) (by kernel_rfl) (fun _ _ _ h => h) (Or.inl ⟨by rfl, ?_⟩) (by assumption) ?_
  rotate_left
  · (intro w hSw; (try dsimp only at hSw); go_simp; try with_reducible rfl)
  simp only [Act.put, List.setIfInBounds_toArray, List.set_cons_zero, List.set_cons_succ]
  refine take_at (i := 2) (v := ?_) (some 75) rfl rfl (by kernel_rfl) (by kernel_rfl) (by kernel_rfl) (fun _ _ _ h => h) (Or.inl ⟨by rfl, ?_⟩) (by assumption) ?_
  rotate_left
  · (intro w hSw; (try dsimp only at hSw); go_simp; try with_reducible rfl)
  simp only [Act.put, List.setIfInBounds_toArray, List.set_cons_zero, List.set_cons_succ]
  refine take_at (i := 3) (v := ?_) (some 76) rfl rfl (by kernel_rfl) (by kernel_rfl) (by kernel_rfl) (fun _ _ _ h => h) (Or.inl ⟨by rfl, ?_⟩) (by assumption) ?_
  rotate_left
  · (intro w hSw; (try dsimp only at hSw); go_simp; try with_reducible rfl)
  simp only [Act.put, List.setIfInBounds_toArray, List.set_cons_zero, List.set_cons_succ]
  refine take_at (i := 5) (v := ?_) (some 78) rfl rfl (by kernel_rfl) (by kernel_rfl) (by kernel_rfl) (fun _ _ _ h => h) (Or.inl ⟨by rfl, ?_⟩) (by assumption) ?_
  rotate_left
  · (intro w hSw; (try dsimp only at hSw); go_simp; try with_reducible rfl)
  simp only [Act.put, List.setIfInBounds_toArray, List.set_cons_zero, List.set_cons_succ]
  have E8 := hidIt (E7.out.drew)
  have Q8 := hidIt (Q7.out.below (Below.refl _ _).drew)
  generalize W7.drew = W8 at *
  have zz4 := hidIt E8.out.size
  refine call_at (i := 4) (some 77) 80 _ _ rfl rfl rfl (by rfl) (by kernel_rfl) #[x0.k] rfl Tryz.func80 (by kernel_rfl) (by kernel_rfl) ?_
  refine (yclone_any (T0.out.below E8.out) (Nat.le_trans M0.out (by decide))).mono ?_
  rintro e W9 ⟨ya, yC, rfl, hT9, hB9⟩
  have E9 := hidIt (E8.out.trans (hB9.mono E8.out.size))
  have Q9 := hidIt (Q8.out.below hB9)
  have T9 := hidIt hT9
  clear hT9 hB9
  refine ⟨_, rfl, Q9.out.1, fun hHeld => ?_⟩
  simp only [Act.put, List.setIfInBounds_toArray, List.set_cons_zero, List.set_cons_succ]
  refine call_at (i := 6) (some 79) 80 _ _ rfl rfl rfl (by rfl) (by kernel_rfl) #[x1.k] rfl Tryz.func80 (by kernel_rfl) (by kernel_rfl) ?_
  refine (yclone_any (T1.out.below E9.out) (Nat.le_trans M1.out (by decide))).mono ?_
  rintro e W10 ⟨za, zC, rfl, hT10, hB10⟩
  have E10 := hidIt (E9.out.trans (hB10.mono E9.out.size))
  have Q10 := hidIt (Q9.out.below hB10)
  have S10 := hidIt ((T9.out [W.heap.size] (by have := P4.out.2.2; have := E8.out.size; simp; omega)).below hB10)
  have T10 := hidIt (hT10 [W.heap.size] (by have := P4.out.2.2; have := E9.out.size; simp; omega))
  clear hT10 hB10
  refine ⟨_, rfl, Q10.out.1, fun hHeld => ?_⟩
  simp only [Act.put, List.setIfInBounds_toArray, List.set_cons_zero, List.set_cons_succ]
  refine take_at (i := 7) (v := .agg (runC ((m : Int) + 1) stamp ((r : Int) + 1) (.slice ya x0.p.k.size yC) (.slice za x1.p.k.size zC)).toArray) (some 80) rfl rfl (by kernel_rfl) (by kernel_rfl) (by kernel_rfl) (fun _ _ _ h => h) (Or.inl ⟨by rfl, ?_⟩) (by assumption) ?_
  · intro w hSw
    exact bld_run 74 _ rfl _ (by kernel_rfl)
  simp only [Act.put, List.setIfInBounds_toArray, List.set_cons_zero, List.set_cons_succ]
  obtain ⟨W11, hr11, R11, B11⟩ := (P4.out.below E10.out).run_store 74 (runC ((m : Int) + 1) stamp ((r : Int) + 1) (.slice ya x0.p.k.size yC) (.slice za x1.p.k.size zC)) rfl run_size (runC_one _ _ _ _ _ _ _ _ _)
  have F11 := hidIt (And.intro R11 B11)
  refine mute_at (i := 8) none rfl rfl (by rfl) (by kernel_rfl) W11 (put_mute 74 (.tmp 6) (.tmp 80) rfl _ _ rfl rfl hr11) (Q10.out.but B11 (by have := P4.out.2.2; omega)).1 (fun hHeld => ?_)
  simp only [Act.put]
  refine take_at (i := 9) (v := ?_) (some 7) rfl rfl (by kernel_rfl) (by kernel_rfl) (by kernel_rfl) (fun _ _ _ h => h) (Or.inl ⟨by rfl, ?_⟩) (by assumption) ?_
  rotate_left
  · (intro w hSw; (try dsimp only at hSw); go_simp; try with_reducible rfl)
  simp only [Act.put, List.setIfInBounds_toArray, List.set_cons_zero, List.set_cons_succ]
  refine wpAnyH_done (by kernel_rfl) ?_ _
  refine NoPanic.normal ?_
  go_wp2_with fail
  have hl := F11.out.1.run_load 74 _ Tryz.underlying74 rfl run_size
  have O11 : Off [W.heap.size] W10 W11 := Off.but F11.out.2 (by simp)
  have wl := P4.out.2.2
  have ew := E3.out.size
  refine bodyPost_ret (v := .tuple #[.agg (runC ((m : Int) + 1) stamp ((r : Int) + 1) (.slice ya x0.p.k.size yC) (.slice za x1.p.k.size zC)).toArray, .int .i64 0]) (by simp [results, Tryz.results27, asAddr, hl]) rfl ⟨ya, yC, za, zC, by rw [HKK.out, LN.out, NM.out.1, NM.out.2]; rfl, by rw [NM.out.1]; exact (S10.out.off O11).any, by rw [NM.out.2]; exact (T10.out.off O11).any, b', m', ?_, ?_, ?_, Nat.le_trans ew N4.out.2.2⟩
  · refine (N4.out.1.below E10.out).offN O11 (fun c hc => ?_)
    obtain rfl : c = W.heap.size := by simpa using hc
    refine ⟨fun q => ?_, w0W.out⟩
    have g1 := BX.out _ (Nat.le_refl _)
    have g2 : W.heap.size ≠ mm := fun e => by have := HN.out.lt mm (by simp); omega
    have z3 : W.heap.size < W3.heap.size := P3s.out
    simp only [List.mem_cons, List.not_mem_nil, or_false, not_or] at q g1
    rcases q with q | q | q | q | q | q
    · exact g1.1 q
    · exact g1.2.1 q
    · exact g1.2.2.1 q
    · rcases N4.out.2.1 with e | e
      · exact g1.2.2.2 (q.trans e)
      · omega
    · have := N4.out.2.2; omega
    · exact g2 q
  · exact (OW.out.trans (Off.of E10.out)).far O11 (fun c hc => .inr (by simp at hc; omega))
  · rcases N4.out.2.1 with e | e
    · exact .inl e
    · exact .inr (Nat.le_trans ew e)
end Go.Proofs.YtblphlcnbnklmaaGreatDoor
