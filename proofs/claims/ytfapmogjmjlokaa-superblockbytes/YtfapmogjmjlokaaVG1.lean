/-
  Walks, not a claim by itself: superblock's functions of a nil Disk and of a zero Disk; CopySuper. By the verifier.
-/
import Derived.Test.YtfapmogjmjlokaaDWrite2
import Derived.Test.YtfapmogjmjlokaaDTurn
import Derived.Test.YtfapmogjmjlokaaDRead
import Derived.Test.YtfapmogjmjlokaaBCopy
import Derived.Test.YtfapmogjmjlokaaCRgt
import Derived.Lib.MakeNoZero
import Derived.Laws.Externs
import Derived.Test.YtfapmogjmjlokaaReg
import Derived.Test.YtfapmogjmjlokaaSSof0
import Derived.Test.YtfapmogjmjlokaaDLoosen
import Derived.Test.YtfapmogjmjlokaaCOpen
import Derived.Test.YtfapmogjmjlokaaSVote
import Derived.Test.YtfapmogjmjlokaaDThree
import Derived.Test.YtfapmogjmjlokaaDWr1
namespace Go.Proofs.Ytfapmogjmjlokaa
open Go.RowKit Go.Maps
theorem Dsk.wrote_out (D : Dsk) (a : Nat) (F : Nat → Int) : ∀ k, (D.wrote a F k).out = D.out
  | 0 => rfl
  | k + 1 => D.wrote_out a F k
theorem Dsk.wrote_lo (D : Dsk) (a : Nat) (F : Nat → Int) (n : Nat) : ∀ k, (D.wrote a F k).lo n = (decide (a ≤ n ∧ n < a + k) || D.lo n)
  | 0 => by
    have : ¬ (a ≤ n ∧ n < a + 0) := by omega
    show D.lo n = _
    rw [decide_eq_false this, Bool.false_or]
  | k + 1 => by
    show setB (D.wrote a F k).lo (a + k) n = _
    unfold setB
    rw [D.wrote_lo a F n k]
    by_cases e : n = a + k
    · rw [if_pos e, decide_eq_true (by omega), Bool.true_or]
    · rw [if_neg e, show decide (a ≤ n ∧ n < a + k) = decide (a ≤ n ∧ n < a + (k + 1)) from by rw [decide_eq_decide]; omega]
theorem Dsk.wrote_sec (D : Dsk) (a : Nat) (F : Nat → Int) (n j : Nat) (hj : j < 256) : ∀ k, at256 (D.wrote a F k).sec n j = if a ≤ n ∧ n < a + k then F ((n - a) * 256 + j) else at256 D.sec n j
  | 0 => by rw [if_neg (by omega)]; rfl
  | k + 1 => by
    show at256 (putF (D.wrote a F k).sec (a + k) (fun j => F (k * 256 + j))) n j = _
    by_cases e : n = a + k
    · subst e
      rw [putF_same _ _ _ _ hj, if_pos (by omega), show a + k - a = k by omega]
    · rw [putF_other _ _ _ _ _ hj e, D.wrote_sec a F n j hj k]
      by_cases g : a ≤ n ∧ n < a + k
      · rw [if_pos g, if_pos (by omega)]
      · rw [if_neg g, if_neg (by omega)]
theorem Dsk.wrote_ob (D : Dsk) (a : Nat) (F : Nat → Int) (n j : Nat) (hj : j < 256) : ∀ k, at256 (D.wrote a F k).ob n j = if (a ≤ n ∧ n < a + k) ∧ D.lo n = false then at256 D.sec n j else at256 D.ob n j
  | 0 => by rw [if_neg (by omega)]; rfl
  | k + 1 => by
    show at256 (if (D.wrote a F k).lo (a + k) = true then (D.wrote a F k).ob else putF (D.wrote a F k).ob (a + k) (at256 (D.wrote a F k).sec (a + k))) n j = _
    have l1 := D.wrote_lo a F (a + k) k
    rw [decide_eq_false (by omega), Bool.false_or] at l1
    rw [l1]
    by_cases e : n = a + k
    · subst e
      by_cases g : D.lo (a + k) = true
      · rw [if_pos g, D.wrote_ob a F (a + k) j hj k, if_neg (by omega), if_neg (fun q => by rw [q.2] at g; cases g)]
      · rw [if_neg g, putF_same _ _ _ _ hj, D.wrote_sec a F (a + k) j hj k, if_neg (by omega), if_pos ⟨by omega, by simpa using g⟩]
    · have key : at256 (D.wrote a F k).ob n j = if (a ≤ n ∧ n < a + (k + 1)) ∧ D.lo n = false then at256 D.sec n j else at256 D.ob n j := by
        rw [D.wrote_ob a F n j hj k]
        by_cases g : (a ≤ n ∧ n < a + k) ∧ D.lo n = false
        · rw [if_pos g, if_pos ⟨by omega, g.2⟩]
        · rw [if_neg g, if_neg (fun q => g ⟨by omega, q.2⟩)]
      split
      · exact key
      · rw [putF_other _ _ _ _ _ hj e]
        exact key
/-- A disk that was made behind w0, and all that lies before w0 is as it was. -/
structure St (w0 W : World) (d s m : Nat) (D : Dsk) : Prop where
  at' : DiskAt W d s m D
  hd : w0.heap.size ≤ d
  hs : w0.heap.size ≤ s
  hm : w0.heap.size ≤ m
  bel : Below w0.heap.size w0 W
theorem St.below {w0 W W' : World} {d s m : Nat} {D : Dsk} (h : St w0 W d s m D) (hB : Below W.heap.size W W') : St w0 W' d s m D := ⟨h.at'.below hB, h.hd, h.hs, h.hm, h.bel.trans (hB.mono h.bel.size)⟩
theorem St.of {w0 W W' : World} {d s m : Nat} {D D' : Dsk} {bs : List Nat} {m' : Nat} (h : St w0 W d s m D) (hb : ∀ b, b ∈ bs → b = d ∨ b = s ∨ b = m) (hO : Off bs W W') (hm' : m' = m ∨ W.heap.size ≤ m') (hD : DiskAt W' d s m' D') : St w0 W' d s m' D' :=
  ⟨hD, h.hd, h.hs, by rcases hm' with rfl | g; (· exact h.hm); (· exact Nat.le_trans h.bel.size g), h.bel.trans (hO.below (fun b q => by have h1 := h.hd; have h2 := h.hs; have h3 := h.hm; rcases hb b q with rfl | rfl | rfl <;> omega) h.bel.size)⟩
/-- What a step of such a disk answers. -/
def StPost (w0 W : World) (d s : Nat) (D : Dsk) (bs : List Nat) (c : Int) (e : Ending) (w' : World) : Prop := e = .returned (.int .i64 c) ∧ ∃ m', St w0 w' d s m' D ∧ (m' ∈ bs ∨ W.heap.size ≤ m') ∧ Off bs W w'
/-- No fuse, and up. -/
def Dsk.free (D : Dsk) : Prop := D.fz = none ∧ D.out = false ∧ 0 ≤ D.ops ∧ D.ops ≤ 1000000
theorem Dsk.free.up {D : Dsk} (h : D.free) : D.up false = true := by unfold Dsk.up; rw [h.2.1]; rfl
theorem Dsk.free.pass {D : Dsk} (h : D.free) (l : Int) : fzPass D.fz l = true := by rw [h.1]; rfl
theorem Dsk.free.fuse {D : Dsk} (h : D.free) (W : World) (l : Int) : FuseIs W D.fz l false := by rw [h.1]; rfl
theorem Dsk.free.ok {D : Dsk} (h : D.free) (d s m : Nat) : FzOk D d s m := fun q e => by rw [h.1] at e; cases e
theorem st_write (w0 W : World) (d s m a b off c n C : Nat) (i : Int) (D : Dsk) (f : Nat → Int) (h : St w0 W d s m D) (hf : D.free) (hi : i = a) (hn : n = c * 256) (hL : Lies W b off (c * 256) f) (hc1 : 1 ≤ c) (hc : c ≤ 8) (hC : c * 256 ≤ C) (ha : a + c ≤ D.N) (hb : b ≠ s ∧ b ≠ m) :
    Calls Try.prog 62 #[.pointer (some ⟨d, 0, none⟩), .int .i64 i, .slice (some ⟨b, off, none⟩) n C] W (StPost w0 W d s (D.wrote a f c).more [d, s, m] 0) := by
  subst hi hn
  refine (write_ok W d s m a b off c C D f 0 false h.at' (hf.fuse W 0) (hf.ok d s m) hf.up (hf.pass 0) hL hc1 hc hC ha hb (fun q e => by rw [hf.1] at e; cases e) hf.2.2).mono ?_
  rintro e w' ⟨rfl, hD, _, hO⟩
  rw [hf.1] at hO
  exact ⟨rfl, m, h.of (bs := [d, s, m]) (fun b q => by simpa using q) hO (.inl rfl) hD, .inl (by simp), hO⟩
theorem st_flush (w0 W : World) (d s m : Nat) (D : Dsk) (h : St w0 W d s m D) (hf : D.free) :
    Calls Try.prog 63 #[.pointer (some ⟨d, 0, none⟩)] W (StPost w0 W d s D.safe.more [d, m] 0) := by
  refine (flush_ok W d s m D 0 false h.at' (hf.fuse W 0) (hf.ok d s m) hf.up (hf.pass 0) (fun q e => by rw [hf.1] at e; cases e) hf.2.2).mono ?_
  rintro e w' ⟨rfl, m', hm', hD, _, hO⟩
  rw [hf.1] at hO
  have hO' : Off [d] W w' := hO
  have hm2 : W.heap.size ≤ m' ∨ m' = d := by rcases hm' with g | g; (· exact .inr (by simpa using g)); (· exact .inl g)
  have hm3 : W.heap.size ≤ m' := by rcases hm2 with g | g; (· exact g); (· exact absurd g.symm hD.dm)
  exact ⟨rfl, m', h.of (bs := [d]) (fun b q => .inl (by simpa using q)) hO' (.inr hm3) hD, .inr hm3, hO'.mono (fun b q => by simp at q; simp [q])⟩
end Go.Proofs.Ytfapmogjmjlokaa
namespace Go.Proofs.Ytfapmogjmjlokaa
open Go.RowKit
set_option maxRecDepth 100000 in
theorem mul64_2 (w : World) : Calls Try.prog 82 #[.int .u64 512, .int .u64 2] w fun e w' => e = .returned (.tuple #[.int .u64 0, .int .u64 1024]) ∧ w' = w := by
  go_enter Try.func82, Try.ntmps82
  go_wp2
  go_ret2
  exact ⟨rfl, rfl⟩
set_option maxRecDepth 100000 in
theorem mul64_4 (w : World) : Calls Try.prog 82 #[.int .u64 512, .int .u64 4] w fun e w' => e = .returned (.tuple #[.int .u64 0, .int .u64 2048]) ∧ w' = w := by
  go_enter Try.func82, Try.ntmps82
  go_wp2
  go_ret2
  exact ⟨rfl, rfl⟩
set_option maxRecDepth 100000 in
theorem mul_2 (w : World) : Calls Try.prog 64 #[.int .u64 512, .int .u64 2] w fun e w' => e = .returned (.tuple #[.int .u64 0, .int .u64 1024]) ∧ w' = w := by
  go_enter Try.func64, Try.ntmps64
  go_wp2_with (go_at_call 82; refine (mul64_2 _).mono ?_; rintro e w1 ⟨rfl, rfl⟩)
  go_ret2
  exact ⟨rfl, rfl⟩
set_option maxRecDepth 100000 in
theorem mul_4 (w : World) : Calls Try.prog 64 #[.int .u64 512, .int .u64 4] w fun e w' => e = .returned (.tuple #[.int .u64 0, .int .u64 2048]) ∧ w' = w := by
  go_enter Try.func64, Try.ntmps64
  go_wp2_with (go_at_call 82; refine (mul64_4 _).mono ?_; rintro e w1 ⟨rfl, rfl⟩)
  go_ret2
  exact ⟨rfl, rfl⟩
/-- The buffer that is made. -/
theorem nozero_run (w : World) (n : Nat) (hn : n ≤ 100000) : ∃ cs : Array Value, (callFunc 65 #[.int .i64 (n : Int)]).run Try.prog w = .ok (.value (.slice (some ⟨w.heap.size, 0, none⟩) n cs.size)) (w.drew.drew.alloc (.cells cs 5)) ∧ n ≤ cs.size := by
  obtain ⟨cs, hr, hle, _⟩ := Lib.run_makeNoZero (P := Try.prog) w #[3] 27 5 Try.underlying27 n (by omega)
  refine ⟨cs, ?_, hle⟩
  rw [run_callFunc_extern Try.func65 (by kernel_rfl) (by kernel_rfl) (by kernel_rfl) (e := Extern.BytealgMakeNoZero.makeNoZero #[3] #[27]) (by kernel_rfl), hr]
  rfl
end Go.Proofs.Ytfapmogjmjlokaa
namespace Go.Proofs.Ytfapmogjmjlokaa
open Go.RowKit
/-- A buffer of N cells in block g, p of which are known. -/
structure BufAt (W : World) (g N p : Nat) (f : Nat → Int) : Prop where
  there : ∀ j, j < N → (W.cell? ⟨g, j, none⟩).isSome = true
  fr : ∀ j, W.frozen? ⟨g, j, none⟩ = false
  cell : ∀ j, j < p → W.cell? ⟨g, j, none⟩ = some (.int .u8 (f j))
  byte : ∀ j, j < p → 0 ≤ f j ∧ f j < 256
  lt : g < W.heap.size
  le : p ≤ N
theorem BufAt.arg {W : World} {g N p : Nat} {f : Nat → Int} (h : BufAt W g N p f) : Arg W (some ⟨g, 0, none⟩) p f := Arg.of ⟨fun j hj => by rw [Nat.zero_add]; exact h.cell j hj, h.byte, h.lt⟩
theorem BufAt.drew {W : World} {g N p : Nat} {f : Nat → Int} (h : BufAt W g N p f) : BufAt W.drew g N p f := ⟨h.there, h.fr, h.cell, h.byte, h.lt, h.le⟩
/-- Bytes are laid behind those that are known. -/
theorem copy_buf {W : World} {g N p n C C0 c : Nat} {F f : Nat → Int} {a : Option Addr} (h : BufAt W g N p F) (hc : c = Nat.min n (N - p)) (hA : Arg W a n f) (h0 : 0 < c) :
    ∃ W2, (∀ ty, (Builtin.copy_ #[27, 27] ty #[.slice (some ⟨g, p, none⟩) (N - p) C0, .slice a n C]).run Try.prog W = .ok (goInt c) W2) ∧ BufAt W2 g N (p + c) (cat F p f) ∧ But g W W2 ∧ W2.heap.size = W.heap.size := by
  have c1 : c ≤ n := by rw [hc]; exact Nat.min_le_left _ _
  have c2 : c ≤ N - p := by rw [hc]; exact Nat.min_le_right _ _
  have le := h.le
  rcases hA with ⟨h1, _⟩ | ⟨_, b, off, rfl, hl⟩
  · omega
  refine ⟨W.setCells g p (cl .u8 c f), fun ty => ?_, ⟨fun j hj => ?_, fun j => by rw [World.frozen?_setCells]; exact h.fr j, fun j hj => ?_, fun j hj => ?_, by rw [size_cells]; exact h.lt, by omega⟩, But.cells _ _ _, size_cells _ _ _ _⟩
  · have := run_copy_cells (P := Try.prog) W 27 27 ty 5 g p (N - p) C0 ⟨b, off, none⟩ n C (cl .u8 c f) Try.underlying27 (by kernel_rfl) (by rw [cl_len]; exact hc)
      (fun j v hj => by obtain ⟨hk, rfl⟩ := cl_at' hj; rw [Addr.add_mid]; exact hl.1 j (by omega))
      (fun j hj => by rw [cl_len] at hj; exact h.there (p + j) (by omega)) (fun j _ => h.fr _) (cl_one _ _ _)
    rw [cl_len] at this
    exact this
  · by_cases q : p ≤ j ∧ j < p + c
    · have := World.cell?_setCells_in g (cl .u8 c f) p W (fun i hi => by rw [cl_len] at hi; exact h.there (p + i) (by omega)) (j - p) (by rw [cl_len]; omega)
      rw [show p + (j - p) = j by omega] at this
      rw [this]; rfl
    · rw [World.cell?_setCells_out g _ _ _ _ (fun _ _ => by rw [cl_len]; show j < p ∨ p + c ≤ j; omega)]
      exact h.there j hj
  · unfold cat
    by_cases q : j < p
    · rw [if_pos q, World.cell?_setCells_out g _ _ _ _ (fun _ _ => by rw [cl_len]; show j < p ∨ p + c ≤ j; omega)]
      exact h.cell j q
    · have := World.cell?_setCells_in g (cl .u8 c f) p W (fun i hi => by rw [cl_len] at hi; exact h.there (p + i) (by omega)) (j - p) (by rw [cl_len]; omega)
      rw [show p + (j - p) = j by omega] at this
      rw [if_neg q, this, ← List.getElem?_eq_getElem, cl_at .u8 c f (j - p) (by omega)]
  · unfold cat
    by_cases q : j < p
    · rw [if_pos q]; exact h.byte j q
    · rw [if_neg q]; exact hl.2.1 _ (by omega)
/-- Bytes, over and over. -/
def rep (f : Nat → Int) (j : Nat) : Int := f (j % 512)
def repRel (w : World) (g N : Nat) (f : Nat → Int) (i : Value) (wr : World) : Prop := ∃ p : Nat, 512 ≤ p ∧ p ≤ N ∧ p % 512 = 0 ∧ i = .int .i64 p ∧ BufAt wr g N p (rep f) ∧ Below g w wr
def RepPost (w : World) (N : Nat) (f : Nat → Int) (e : Ending) (w' : World) : Prop := ∃ g, e = .returned (.slice (some ⟨g, 0, none⟩) N N) ∧ w.heap.size ≤ g ∧ Lies w' g 0 N (rep f) ∧ Below w.heap.size w w'
set_option maxRecDepth 100000 in
set_option maxHeartbeats 1000000 in
theorem repeat_any (b off C n N : Nat) (f : Nat → Int) (w : World) (hL : Lies w b off 512 f) (hn : 1 ≤ n) (hN : N = n * 512) (hN8 : N ≤ 8192)
    (hM : ∀ w, Calls Try.prog 64 #[.int .u64 512, .int .u64 (n : Int)] w fun e w' => e = .returned (.tuple #[.int .u64 0, .int .u64 (N : Int)]) ∧ w' = w) :
    Calls Try.prog 48 #[.slice (some ⟨b, off, none⟩) 512 C, .int .i64 (n : Int)] w (RepPost w N f) := by
  have HM : Hid (∀ w, Calls Try.prog 64 #[.int .u64 512, .int .u64 (n : Int)] w fun e w' => e = .returned (.tuple #[.int .u64 0, .int .u64 (N : Int)]) ∧ w' = w) := hM
  obtain ⟨cs, hnz, hcs⟩ := nozero_run w N (by omega)
  have B1 : Below w.heap.size w (w.alloc (.cells cs 5)).drew.drew := ((Below.refl _ _).alloc (Nat.le_refl _) _).drew.drew
  have L1 : Lies (w.alloc (.cells cs 5)).drew.drew b off 512 f := hL.below B1
  have U0 : BufAt (w.alloc (.cells cs 5)).drew.drew w.heap.size N 0 (rep f) := (BufAt.drew (BufAt.drew ⟨fun j hj => by
    rw [World.cell?_alloc_at _ _ _ _ rfl, Array.getElem?_eq_getElem (by omega)]; rfl, fun j => by simp [go_sem], fun j hj => by omega, fun j hj => by omega, by rw [World.size_alloc]; exact Nat.lt_succ_self _, by omega⟩))
  obtain ⟨W2, hc1, U2, B2, z2⟩ := copy_buf (C := C) (C0 := N) (c := 512) U0 (by show 512 = Nat.min 512 (N - 0); exact (Nat.min_eq_left (by omega)).symm) (Arg.of L1) (by omega)
  rw [Nat.zero_add] at U2
  rw [Nat.sub_zero] at hc1
  have ST : Hid (repRel w w.heap.size N f (.int .i64 512) W2) := ⟨512, by omega, by omega, rfl, rfl, ⟨U2.there, U2.fr, fun j hj => by rw [U2.cell j hj]; unfold cat rep; rw [if_neg (by omega), Nat.sub_zero, Nat.mod_eq_of_lt hj], fun j hj => by unfold rep; rw [Nat.mod_eq_of_lt hj]; exact hL.2.1 j hj, U2.lt, U2.le⟩, B1.trans (B2.below (Nat.le_refl _) B1.size)⟩
  have FB : Hid (∀ j, j < 512 → 0 ≤ f j ∧ f j < 256) := hL.2.1
  have n0 : ¬ (n : Int) = 0 := by omega
  have n1 : ¬ (n : Int) < 0 := by omega
  have n2 : ¬ (9223372036854775807 : Int) < N := by omega
  have n3 : ¬ (N : Int) = 0 := by omega
  have n4 : ¬ (8192 : Int) < N := by omega
  have n5 : (N : Int) ≤ cs.size := by omega
  have n6 : (0 : Int) ≤ N := by omega
  have n7 : N ≤ 8192 := hN8
  have n8 : n ≤ 16 := by omega
  have n9 : 512 ≤ N := by omega
  have nm : N % 512 = 0 := by omega
  clear L1 B1 U0 U2 B2 z2 hM hL hN
  go_enter Try.func48, Try.ntmps48
  go_wp2_with (first
    | (go_at_call 64; refine (HM.out _).mono ?_; rintro e w1 ⟨rfl, rfl⟩)
    | (at_builtin; refine wpList_copy_go rfl (.tmp 58) (.tmp 59) 27 27 rfl _ _ rfl rfl hc1 ?_))
  go_loopw [10] (fun i wr => repRel w1 w1.heap.size N f i wr) (fun i _ => N - (RowKit.intOf i).toNat)
  case atStart => exact ST.out
  case round =>
    obtain ⟨p, p5, pN, pm, rfl, hU, hB⟩ := hrel
    clear ST hnz hc1
    have UU : Hid (BufAt wr w1.heap.size N p (rep f)) := hU
    have BE : Hid (Below w1.heap.size w1 wr) := hB
    clear hB
    by_cases hlt : p < N
    · obtain ⟨c, hc⟩ : ∃ c, Nat.min p (N - p) = c := ⟨_, rfl⟩
      have hcp : c ≤ p := by rw [← hc]; exact Nat.min_le_left _ _
      have hcN : c ≤ N - p := by rw [← hc]; exact Nat.min_le_right _ _
      have hc0 : 0 < c := by rw [← hc]; exact Nat.lt_min.2 ⟨by omega, by omega⟩
      obtain ⟨W3, hr3, U3, B3, z3⟩ := copy_buf (C := N) (C0 := N - p) (c := c) hU.drew hc.symm hU.drew.arg hc0
      have hcm : c % 512 = 0 := by
        by_cases q : p ≤ N - p
        · have q1 : Nat.min p (N - p) = p := Nat.min_eq_left q
          rw [← hc, q1]; exact pm
        · have q1 : Nat.min p (N - p) = N - p := Nat.min_eq_right (by omega)
          rw [← hc, q1]; omega
      have RR : Hid (repRel w1 w1.heap.size N f (.int .i64 ((p : Int) + c)) W3) := ⟨p + c, by omega, by omega, by omega, by go_num, ⟨U3.there, U3.fr, fun j hj => by
        rw [U3.cell j hj]
        unfold cat rep
        by_cases q : j < p
        · rw [if_pos q]
        · rw [if_neg q, show (j - p) % 512 = j % 512 by omega], fun j hj => FB.out _ (by omega), U3.lt, U3.le⟩, BE.out.drew.trans (B3.below (Nat.le_refl _) BE.out.size)⟩
      have i0 : (p : Int) < N := by omega
      have i1 : (0 : Int) ≤ (p : Int) := by omega
      have i2 : (p : Int) ≤ N := by omega
      have i3 : ¬ N = p := by omega
      have i4 : IntKind.i64.wrap ((p : Int) + c) = (p : Int) + c := by rw [IntKind.wrap_i64]; omega
      have i5 : min (p : Int) N = p := Int.min_eq_left (by omega)
      have PW : p < p + c := by omega
      clear hU U3 B3 z3 hc hcp hcN hc0 hcm
      go_wp2_with fail
      refine wp_region_noPanic ?_
      refine wp_region_held_drew (S := fun _ => True) (by kernel_rfl) trivial (fun _ => ?_)
      refine take_at (i := 0) (v := ?_) (some 67) rfl rfl (by kernel_rfl) (by kernel_rfl) (by kernel_rfl) (fun _ _ _ h => h) (Or.inl ⟨by rfl, ?_⟩) trivial ?_
      rotate_left
      · (intro w hSw; go_simp; try with_reducible rfl)
      simp only [Act.put, List.setIfInBounds_toArray, List.set_cons_zero, List.set_cons_succ]
      refine take_at (i := 1) (v := ?_) (some 68) rfl rfl (by kernel_rfl) (by kernel_rfl) (by kernel_rfl) (fun _ _ _ h => h) (Or.inl ⟨by rfl, ?_⟩) trivial ?_
      rotate_left
      · (intro w hSw; go_simp; try with_reducible rfl)
      simp only [Act.put, List.setIfInBounds_toArray, List.set_cons_zero, List.set_cons_succ]
      refine take_at (i := 2) (v := ?_) (some 69) rfl rfl (by kernel_rfl) (by kernel_rfl) (by kernel_rfl) (fun _ _ _ h => h) (Or.inl ⟨by rfl, ?_⟩) trivial ?_
      rotate_left
      · (intro w hSw; go_simp; try with_reducible rfl)
      simp only [Act.put, List.setIfInBounds_toArray, List.set_cons_zero, List.set_cons_succ]
      refine take_at (i := 3) (v := ?_) (some 70) rfl rfl (by kernel_rfl) (by kernel_rfl) (by kernel_rfl) (fun _ _ _ h => h) (Or.inl ⟨by rfl, ?_⟩) trivial ?_
      rotate_left
      · (intro w hSw; go_simp; try with_reducible rfl)
      simp only [Act.put, List.setIfInBounds_toArray, List.set_cons_zero, List.set_cons_succ]
      refine take_at (i := 4) (v := ?_) (some 71) rfl rfl (by kernel_rfl) (by kernel_rfl) (by kernel_rfl) (fun _ _ _ h => h) (Or.inl ⟨by rfl, ?_⟩) trivial ?_
      rotate_left
      · (intro w hSw; go_simp; try with_reducible rfl)
      simp only [Act.put, List.setIfInBounds_toArray, List.set_cons_zero, List.set_cons_succ]
      refine take_at (i := 5) (v := ?_) (some 72) rfl rfl (by kernel_rfl) (by kernel_rfl) (by kernel_rfl) (fun _ _ _ h => h) (Or.inl ⟨by rfl, ?_⟩) trivial ?_
      rotate_left
      · (intro w hSw; go_simp; try with_reducible rfl)
      simp only [Act.put, List.setIfInBounds_toArray, List.set_cons_zero, List.set_cons_succ]
      refine take_at (i := 6) (v := ?_) (some 73) rfl rfl (by kernel_rfl) (by kernel_rfl) (by kernel_rfl) (fun _ _ _ h => h) (Or.inl ⟨by rfl, ?_⟩) trivial ?_
      rotate_left
      · (intro w hSw; go_simp; try with_reducible rfl)
      simp only [Act.put, List.setIfInBounds_toArray, List.set_cons_zero, List.set_cons_succ]
      refine step_at (i := 7) (some 74) rfl rfl (by rfl) (by kernel_rfl) (goInt c) W3 (copy_run (.tmp 70) (.tmp 73) 27 27 rfl _ _ rfl rfl (hr3 _)) trivial (fun _ => ?_)
      simp only [Act.put, List.setIfInBounds_toArray, List.set_cons_zero, List.set_cons_succ]
      refine take_at (i := 8) (v := ?_) (some 75) rfl rfl (by kernel_rfl) (by kernel_rfl) (by kernel_rfl) (fun _ _ _ h => h) (Or.inl ⟨by rfl, ?_⟩) trivial ?_
      rotate_left
      · (intro w hSw; go_simp; try with_reducible rfl)
      simp only [Act.put, List.setIfInBounds_toArray, List.set_cons_zero, List.set_cons_succ]
      refine take_at (i := 9) (v := ?_) (some 10) rfl rfl (by kernel_rfl) (by kernel_rfl) (by kernel_rfl) (fun _ _ _ h => h) (Or.inl ⟨by rfl, ?_⟩) trivial ?_
      rotate_left
      · (intro w hSw; go_simp; try with_reducible rfl)
      simp only [Act.put, List.setIfInBounds_toArray, List.set_cons_zero, List.set_cons_succ]
      refine wpAnyH_done (by kernel_rfl) ?_ _
      refine NoPanic.normal ?_
      go_wp2_with fail
      go_roundw
      case rel => exact RR.out
      case measure => simp [RowKit.intOf]; omega
    · obtain rfl : p = N := by omega
      have PP : Hid (RepPost w1 p f (.returned (.slice (some ⟨w1.heap.size, 0, none⟩) p p)) wr) := ⟨w1.heap.size, rfl, Nat.le_refl _, ⟨fun j hj => by rw [Nat.zero_add]; exact hU.cell j hj, hU.byte, hU.lt⟩, BE.out⟩
      clear hU
      go_wp2_with fail
      go_ret
      exact PP.out
end Go.Proofs.Ytfapmogjmjlokaa
namespace Go.Proofs.Ytfapmogjmjlokaa
open Go.RowKit
theorem store_skip1 {P : Program} {a : Act} {w : World} {o : Oper} (t : TypeId) (x y : Operand) (hop : o.op = .store t x y) (X Y : Value) (hx : a.eval x = X) (hy : a.eval y = Y) {w' : World} (hr : (Instr.storeAt t X Y).run P w = .ok () w') : (execOp a.eval o).run P w = .ok .skip w' := by
  simp [execOp, hop, hx, hy, hr, Result.andThen]
theorem app_run1 {P : Program} {a : Act} {w : World} {o : Oper} (d x : Operand) (dT sT : TypeId) (hop : o.op = Op.call { callee := Callee.builtin Builtin.append, args := #[d, x], argTypes := #[dT, sT] })
    (v u : Value) (hd : a.eval d = v) (hx : a.eval x = u) {v' : Value} {w' : World} (hr : (Builtin.append_ #[dT, sT] o.type #[v, u]).run P w = .ok v' w') : (execOp a.eval o).run P w = .ok (.value v') w' := by
  simp [execOp, hop, resolve, invoke, builtin, hd, hx, hr, Result.andThen]
theorem store_heads (W : World) (b : Nat) (v u : Value) (c : W.cell? ⟨b, 10, none⟩ = some u) (fr : W.frozen? ⟨b, 10, none⟩ = false) (hv : ∃ a n C, v = .slice a n C) : (Instr.storeAt 24 (.pointer (some ⟨b, 10, none⟩)) v).run Try.prog W = .ok () (W.setCell ⟨b, 10, none⟩ v) := by
  obtain ⟨a, n, C, rfl⟩ := hv
  simp [go_sem, c, fr]
/-- The region in which a head is appended. -/
def sofS10 (b : Nat) (v : Value) (X : World) : Prop := X.cell? ⟨b, 10, none⟩ = some v
set_option maxRecDepth 100000 in
set_option maxHeartbeats 1000000 in
theorem superOf_any (g : Nat) (f : Nat → Int) (w : World) (hL : Lies w g 0 496 f) :
    Calls Try.prog 37 #[.slice (some ⟨g, 0, none⟩) 496 496] w (SofPost w f) := by
  have HL : Hid (Lies w g 0 496 f) := hL
  have RB : Hid (∀ i, i < 124 → 0 ≤ rdN f i ∧ rdN f i < 4294967296) := fun i hi => rdN_bound f i (fun j hj => hL.2.1 _ (by omega))
  clear hL
  have T1 : Hid True := trivial
  have T2 : Hid True := trivial
  go_enter Try.func37, Try.ntmps37
  go_wp2_with (first
    | (have _q := T1; clear T1; refine wpList_alloc_rec rfl 26 rfl (supC sup0 none 0) w.heap.size rfl zero_super ?_; intro W0 R0 B0 z0)
    | (have _q := T2; clear T2; refine wpList_alloc_rec rfl 26 rfl (supC sup0 none 0) (w.heap.size + 1) z0 zero_super ?_; intro W1 R1 B1 z1)
    | (go_at_call 59; refine (taker_let _ _ _ _ _ rfl).mono ?_; rintro e W2 ⟨rfl, c2, f2, B2, z2⟩; rw [z1] at c2 f2 z2 ⊢)
    | (go_at_call 55; refine (fields_any (w.heap.size + 1) _).mono ?_; rintro e W3 ⟨rfl, B3⟩))
  have L0 : SofS w W3 f g 0 (sF f 0) none 0 := by
    have q1 : Below w.heap.size w W1 := B0.trans (B1.mono (by omega))
    have q2 : Below w.heap.size w W2 := q1.trans (B2.mono (by omega))
    have r0 : Below W0.heap.size W0 W2 := (B1.mono (by omega)).trans (B2.mono (by omega))
    have gl : g < w.heap.size := HL.out.2.2
    refine SofS.below ⟨⟨⟨0, c2, fun _ => rfl⟩, f2, HL.out.below q2, by omega, by omega⟩, R1.below (B2.mono (by omega)), R0.below r0, q2, gl⟩ B3
  have ST : Hid (sof1Rel w f g (.int .i64 0) W3) := ⟨0, by omega, rfl, L0⟩
  clear L0 R0 B0 z0 R1 B1 z1 c2 f2 B2 z2 B3 HL
  go_loopw [14] (fun i wr => sof1Rel w f g i wr) (fun i _ => 9 - (RowKit.intOf i).toNat)
  case atStart => exact ST.out
  case round =>
    obtain ⟨k, hk9, rfl, hL⟩ := hrel
    clear ST
    have LL : Hid (SofS w wr f g k (sF f k) none 0) := hL
    by_cases hlt : k < 9
    · have p1 : ∀ w', (Instr.index 101 (.agg (fptr (w.heap.size + 1)).toArray) (.int .i64 k)).run Try.prog w' = .ok (.pointer (some ⟨w.heap.size + 1, k, none⟩)) w' := fun w' => fptr_index _ w' k hlt
      obtain ⟨v, hv⟩ : ∃ v, rdN f k = v := ⟨_, rfl⟩
      have VV : Hid (rdN f k = v) := hv
      have vb := RB.out k (by omega)
      rw [hv] at vb
      obtain ⟨v0, v1⟩ := vb
      clear hL hv
      have e0 : (k : Int) < 9 := by omega
      go_wp2_with (go_at_call 73; refine (sof_take w _ f g k (sF f k) none 0 LL.out (by omega)).mono ?_; rintro e w5 ⟨rfl, h5, _, _⟩; rw [VV.out]
                   obtain ⟨d0, f0⟩ := h5.recd.cel k _ (supC_x (sF f k) none 0 k hlt)
                   have L5 : Hid (SofS w (w5.setCell ⟨w.heap.size + 1, k, none⟩ (.int .i64 v)) f g (k + 1) (sF f (k + 1)) none 0) := h5.set k (.int .i64 v) (by rw [← VV.out]; exact sF_set f k hlt)
                   clear h5)
      go_roundw
      case rel => exact ⟨k + 1, by omega, by go_num, L5.out⟩
      case measure => simp [RowKit.intOf]; omega
    · obtain rfl : k = 9 := by omega
      rw [show ((9 : Nat) : Int) = 9 from rfl]
      clear hL
      obtain ⟨v9, hv9⟩ : ∃ v, rdN f 9 = v := ⟨_, rfl⟩
      have V9 : Hid (rdN f 9 = v9) := hv9
      have vb9 := RB.out 9 (by omega)
      rw [hv9] at vb9
      obtain ⟨v90, v91⟩ := vb9
      obtain ⟨n, hn⟩ : ∃ n : Nat, rdN f 10 = n := ⟨(rdN f 10).toNat, by have := RB.out 10 (by omega); omega⟩
      have V10 : Hid (rdN f 10 = n) := hn
      have vb10 := RB.out 10 (by omega)
      rw [hn] at vb10
      obtain ⟨_, v101⟩ := vb10
      clear hv9 hn
      have K9 : Hid True := trivial
      have K10 : Hid True := trivial
      by_cases bad : 1 < v9 ∨ 32 < n
      · have NO : Hid (¬ SupOk f) := fun h => by
          have h1 := h.1
          have h2 := h.2.1
          rw [V9.out] at h1
          rw [V10.out] at h2
          omega
        by_cases b1 : 1 < v9
        · go_wp2_with (first
            | (go_at_call 73; have _q := K9; clear K9; refine (sof_take w _ f g 9 (sF f 9) none 0 LL.out (by omega)).mono ?_; rintro e w5 ⟨rfl, h5, _, _⟩; rw [V9.out]; have L5 : Hid (SofS w w5 f g 10 (sF f 9) none 0) := h5; clear h5)
            | (go_at_call 73; have _q := K10; clear K10; refine (sof_take w _ f g 10 (sF f 9) none 0 L5.out (by omega)).mono ?_; rintro e w6 ⟨rfl, h6, _, _⟩; rw [V10.out]; have L6 : Hid (SofS w w6 f g 11 (sF f 9) none 0) := h6; clear h6)
            | (refine wpList_build_to rfl 26 _ rfl (supC sup0 none 0).toArray (by kernel_rfl) ?_)
            | (refine wpList_store_rec rfl 26 (.tmp 2) (.tmp 33) rfl w.heap.size 0 _ (supC sup0 none 0) rfl rfl L6.out.res rfl (by kernel_rfl) (supC_one _ _ _) ?_; intro W9 R9 B9))
          have hl := R9.run_load 26 _ Try.underlying26 rfl (by kernel_rfl)
          refine bodyPost_ret (v := .tuple #[supV sup0 none 0, .bool false]) (by simp [results, Try.results37, asAddr, supV, hl]) rfl (.inl ⟨NO.out, rfl, ?_⟩)
          exact L6.out.bel.trans (B9.below (Nat.le_refl _) L6.out.bel.size)
        · have b2 : (32 : Int) < n := by omega
          go_wp2_with (first
            | (go_at_call 73; have _q := K9; clear K9; refine (sof_take w _ f g 9 (sF f 9) none 0 LL.out (by omega)).mono ?_; rintro e w5 ⟨rfl, h5, _, _⟩; rw [V9.out]; have L5 : Hid (SofS w w5 f g 10 (sF f 9) none 0) := h5; clear h5)
            | (go_at_call 73; have _q := K10; clear K10; refine (sof_take w _ f g 10 (sF f 9) none 0 L5.out (by omega)).mono ?_; rintro e w6 ⟨rfl, h6, _, _⟩; rw [V10.out]; have L6 : Hid (SofS w w6 f g 11 (sF f 9) none 0) := h6; clear h6)
            | (refine wpList_build_to rfl 26 _ rfl (supC sup0 none 0).toArray (by kernel_rfl) ?_)
            | (refine wpList_store_rec rfl 26 (.tmp 2) (.tmp 33) rfl w.heap.size 0 _ (supC sup0 none 0) rfl rfl L6.out.res rfl (by kernel_rfl) (supC_one _ _ _) ?_; intro W9 R9 B9))
          have hl := R9.run_load 26 _ Try.underlying26 rfl (by kernel_rfl)
          refine bodyPost_ret (v := .tuple #[supV sup0 none 0, .bool false]) (by simp [results, Try.results37, asAddr, supV, hl]) rfl (.inl ⟨NO.out, rfl, ?_⟩)
          exact L6.out.bel.trans (B9.below (Nat.le_refl _) L6.out.bel.size)
      · have g1 : ¬ 1 < v9 := by omega
        have g2 : ¬ (32 : Int) < n := by omega
        clear bad v90 v91 v101
        go_wp2_with (first
          | (go_at_call 73; have _q := K9; clear K9; refine (sof_take w _ f g 9 (sF f 9) none 0 LL.out (by omega)).mono ?_; rintro e w5 ⟨rfl, h5, _, _⟩; rw [V9.out]; have L5 : Hid (SofS w w5 f g 10 (sF f 9) none 0) := h5; clear h5)
          | (go_at_call 73; have _q := K10; clear K10; refine (sof_take w _ f g 10 (sF f 9) none 0 L5.out (by omega)).mono ?_; rintro e w6 ⟨rfl, h6, _, _⟩; rw [V10.out]
             obtain ⟨d9, f9⟩ := h6.recd.cel 9 (.bool false) rfl
             have L7 : Hid (SofS w (w6.setCell ⟨w.heap.size + 1, 9, none⟩ (.bool (v9 == 1))) f g 11 (sH f 0) none 0) := h6.set 9 (.bool (v9 == 1)) (sF_9' f v9 V9.out)
             clear h6))
        have n32 : n ≤ 32 := by omega
        have ST : Hid (sof2Rel w f g n (.int .u32 0) (w6.setCell ⟨w.heap.size + 1, 9, none⟩ (.bool (v9 == 1)))) := ⟨0, by omega, rfl, none, 0, L7.out, OwnI.nil _ _ _ _ _⟩
        clear L5 L7 d9 f9 LL
        go_loopw [38] (fun i wr => sof2Rel w f g n i wr) (fun i _ => n - (RowKit.intOf i).toNat)
        case atStart => exact ST.out
        case round =>
          obtain ⟨k, hkn, rfl, a, C, hH⟩ := hrel
          clear ST
          have HH : Hid (SofH w wr f g (11 + 2 * k) k a C) := hH
          clear hH
          by_cases hlt2 : k < n
          · obtain ⟨x, hx⟩ : ∃ v, rdN f (11 + 2 * k) = v := ⟨_, rfl⟩
            have X : Hid (rdN f (11 + 2 * k) = x) := hx
            have xb := RB.out (11 + 2 * k) (by omega)
            rw [hx] at xb
            obtain ⟨x0, x1⟩ := xb
            obtain ⟨y, hy⟩ : ∃ v, rdN f (11 + 2 * k + 1) = v := ⟨_, rfl⟩
            have Y : Hid (rdN f (11 + 2 * k + 1) = y) := hy
            have yb := RB.out (11 + 2 * k + 1) (by omega)
            rw [hy] at yb
            obtain ⟨y0, y1⟩ := yb
            have yw : IntKind.i64.wrap y = y := by rw [IntKind.wrap_i64]; omega
            clear hx hy
            have e0 : (k : Int) < n := by omega
            have K7 : Hid True := trivial
            go_wp2_with (go_at_call 73; have _q := K7; clear K7; refine (sof_take w _ f g (11 + 2 * k) (sH f k) a C HH.out.1 (by omega)).mono ?_; rintro e w7 ⟨rfl, h7, b7, _⟩; rw [X.out]
                         have H7 : Hid (SofH w w7 f g (11 + 2 * k + 1) k a C) := HH.out.but b7 (by omega) h7
                         have d7 : Hid (w7.cell? ⟨w.heap.size + 1, 10, none⟩ = some (.slice a k C)) := (h7.recd.cel 10 _ rfl).1
                         clear h7 b7)
            have H7d : Hid (SofH w w7.drew f g (11 + 2 * k + 1) k a C) := ⟨H7.out.1.below (Below.refl _ _).drew, H7.out.2.below (Below.refl _ _).drew⟩
            refine wp_region_noPanic ?_
            refine wp_region_held_drew (S := fun _ => True) (by kernel_rfl) trivial (fun _ => ?_)
            refine take_at (i := 0) (v := ?_) (some 43) rfl rfl (by kernel_rfl) (by kernel_rfl) (by kernel_rfl) (fun _ _ _ h => h) (Or.inl ⟨by rfl, ?_⟩) trivial ?_
            rotate_left
            · (intro w hSw; go_simp; try with_reducible rfl)
            simp only [Act.put, List.setIfInBounds_toArray, List.set_cons_zero, List.set_cons_succ]
            refine take_at (i := 2) (v := ?_) (some 45) rfl rfl (by kernel_rfl) (by kernel_rfl) (by kernel_rfl) (fun _ _ _ h => h) (Or.inl ⟨by rfl, ?_⟩) trivial ?_
            rotate_left
            · (intro w hSw; go_simp; try with_reducible rfl)
            simp only [Act.put, List.setIfInBounds_toArray, List.set_cons_zero, List.set_cons_succ]
            refine take_at (i := 3) (v := ?_) (some 46) rfl rfl (by kernel_rfl) (by kernel_rfl) (by kernel_rfl) (fun _ _ _ h => h) (Or.inl ⟨by rfl, ?_⟩) trivial ?_
            rotate_left
            · (intro w hSw; go_simp; try with_reducible rfl)
            simp only [Act.put, List.setIfInBounds_toArray, List.set_cons_zero, List.set_cons_succ]
            refine fork_at (i := 1) (j := 4) (by kernel_rfl) ?_ ?_
            · refine wpOp_value (i := 1) (some 44) rfl rfl (by rfl) (.slice a k C) w7.drew (by have c := d7.out; go_simp) ⟨trivial, ?_⟩
              simp only [Act.put, List.setIfInBounds_toArray, List.set_cons_zero, List.set_cons_succ]
              refine callv_at (i := 4) (some 47) (.tmp 46) 73 #[.pointer (some ⟨w.heap.size + 1 + 1, 0, none⟩)] #[] #[] rfl rfl rfl rfl (by rfl) (by kernel_rfl) #[.pointer (some ⟨w.heap.size + 1 + 1, 0, none⟩)] (by simp) Try.func73 (by kernel_rfl) (by kernel_rfl) ?_
              refine (sof_take w _ f g (11 + 2 * k + 1) (sH f k) a C H7d.out.1 (by omega)).mono ?_
              rintro e w8 ⟨rfl, h8, b8, z8⟩
              have H8 : Hid (SofH w w8 f g (11 + 2 * k + 1 + 1) k a C) := H7d.out.but b8 (by omega) h8
              have d8 : Hid (w8.cell? ⟨w.heap.size + 1, 10, none⟩ = some (.slice a k C)) := (h8.recd.cel 10 _ rfl).1
              clear h8 b8 z8
              rw [Y.out]
              refine ⟨_, rfl, trivial, fun _ => ?_⟩
              simp only [Act.put, List.setIfInBounds_toArray, List.set_cons_zero, List.set_cons_succ]
              refine take_at (i := 5) (v := ?_) (some 48) rfl rfl (by kernel_rfl) (by kernel_rfl) (by kernel_rfl) (fun _ _ _ h => h) (Or.inl ⟨by rfl, ?_⟩) trivial ?_
              rotate_left
              · (intro w hSw; go_simp; try with_reducible rfl)
              simp only [Act.put, List.setIfInBounds_toArray, List.set_cons_zero, List.set_cons_succ]
              refine take_at (i := 6) (v := ?_) (some 49) rfl rfl (by kernel_rfl) (by kernel_rfl) (by kernel_rfl) (fun _ _ _ h => h) (Or.inl ⟨by rfl, ?_⟩) trivial ?_
              rotate_left
              · (intro w hSw; go_simp; try with_reducible rfl)
              simp only [Act.put, List.setIfInBounds_toArray, List.set_cons_zero, List.set_cons_succ]
              refine step_at (i := 7) (some 50) rfl rfl (by rfl) (by kernel_rfl) (.slice (some ⟨w8.heap.size, 0, none⟩) 1 1) (w8.alloc (.cells #[.int .i64 x, .int .i64 y] 75)) (by go_simp) trivial (fun _ => ?_)
              simp only [Act.put, List.setIfInBounds_toArray, List.set_cons_zero, List.set_cons_succ]
              obtain ⟨a', C', W9, hr9, c9, f9, h9⟩ := sof_step w w8 f g k a C (by omega) H8.out x y X.out.symm Y.out.symm
              have H9 : Hid (SofH w (W9.setCell ⟨w.heap.size + 1, 10, none⟩ (.slice a' (k + 1) C')) f g (11 + 2 * (k + 1)) (k + 1) a' C') := h9
              clear h9
              refine step_at (i := 8) (some 51) rfl rfl (by rfl) (by kernel_rfl) (.slice a' (k + 1) C') W9 (app_run1 (.tmp 44) (.tmp 50) 24 24 rfl _ _ rfl rfl hr9) trivial (fun _ => ?_)
              simp only [Act.put, List.setIfInBounds_toArray, List.set_cons_zero, List.set_cons_succ]
              refine take_at (i := 9) (v := ?_) (some 52) rfl rfl (by kernel_rfl) (by kernel_rfl) (by kernel_rfl) (fun _ _ _ h => h) (Or.inl ⟨by rfl, ?_⟩) trivial ?_
              rotate_left
              · (intro w hSw; go_simp; try with_reducible rfl)
              simp only [Act.put, List.setIfInBounds_toArray, List.set_cons_zero, List.set_cons_succ]
              refine skip_at (i := 10) none rfl rfl (by rfl) (by kernel_rfl) (W9.setCell ⟨w.heap.size + 1, 10, none⟩ (.slice a' (k + 1) C')) (store_skip1 24 (.tmp 52) (.tmp 51) rfl _ _ rfl rfl (store_heads _ _ _ _ c9 f9 ⟨_, _, _, rfl⟩)) trivial (fun _ => ?_)
              simp only [Act.put]
              refine wpAnyH_done (by kernel_rfl) ?_ _
              refine NoPanic.normal ?_
              go_wp2_with fail
              go_roundw
              case rel => exact ⟨k + 1, by omega, by go_num, a', C', H9.out⟩
              case measure => simp [RowKit.intOf]; omega
            · refine wpOp_callv (i := 4) (some 47) (.tmp 46) 73 #[.pointer (some ⟨w.heap.size + 1 + 1, 0, none⟩)] #[] #[] rfl rfl rfl rfl (by rfl) #[.pointer (some ⟨w.heap.size + 1 + 1, 0, none⟩)] (by simp) Try.func73 (by kernel_rfl) (by kernel_rfl) ?_
              refine (sof_take w _ f g (11 + 2 * k + 1) (sH f k) a C H7d.out.1 (by omega)).mono ?_
              rintro e w8 ⟨rfl, h8, b8, z8⟩
              have H8 : Hid (SofH w w8 f g (11 + 2 * k + 1 + 1) k a C) := H7d.out.but b8 (by omega) h8
              have d8 : Hid (w8.cell? ⟨w.heap.size + 1, 10, none⟩ = some (.slice a k C)) := (h8.recd.cel 10 _ rfl).1
              clear h8 b8 z8
              rw [Y.out]
              refine ⟨_, rfl, trivial, ?_⟩
              simp only [Act.put, List.setIfInBounds_toArray, List.set_cons_zero, List.set_cons_succ]
              refine take_at (i := 5) (v := ?_) (some 48) rfl rfl (by kernel_rfl) (by kernel_rfl) (by kernel_rfl) (fun _ _ _ h => h) (Or.inl ⟨by rfl, ?_⟩) trivial ?_
              rotate_left
              · (intro w hSw; go_simp; try with_reducible rfl)
              simp only [Act.put, List.setIfInBounds_toArray, List.set_cons_zero, List.set_cons_succ]
              refine take_at (i := 6) (v := ?_) (some 49) rfl rfl (by kernel_rfl) (by kernel_rfl) (by kernel_rfl) (fun _ _ _ h => h) (Or.inl ⟨by rfl, ?_⟩) trivial ?_
              rotate_left
              · (intro w hSw; go_simp; try with_reducible rfl)
              simp only [Act.put, List.setIfInBounds_toArray, List.set_cons_zero, List.set_cons_succ]
              refine fork_at (i := 1) (j := 7) (by kernel_rfl) ?_ ?_
              · refine wpOp_value (i := 1) (some 44) rfl rfl (by rfl) (.slice a k C) w8 (by have c := d8.out; go_simp) ⟨trivial, ?_⟩
                simp only [Act.put, List.setIfInBounds_toArray, List.set_cons_zero, List.set_cons_succ]
                refine step_at (i := 7) (some 50) rfl rfl (by rfl) (by kernel_rfl) (.slice (some ⟨w8.heap.size, 0, none⟩) 1 1) (w8.alloc (.cells #[.int .i64 x, .int .i64 y] 75)) (by go_simp) trivial (fun _ => ?_)
                simp only [Act.put, List.setIfInBounds_toArray, List.set_cons_zero, List.set_cons_succ]
                obtain ⟨a', C', W9, hr9, c9, f9, h9⟩ := sof_step w w8 f g k a C (by omega) H8.out x y X.out.symm Y.out.symm
                have H9 : Hid (SofH w (W9.setCell ⟨w.heap.size + 1, 10, none⟩ (.slice a' (k + 1) C')) f g (11 + 2 * (k + 1)) (k + 1) a' C') := h9
                clear h9
                refine step_at (i := 8) (some 51) rfl rfl (by rfl) (by kernel_rfl) (.slice a' (k + 1) C') W9 (app_run1 (.tmp 44) (.tmp 50) 24 24 rfl _ _ rfl rfl hr9) trivial (fun _ => ?_)
                simp only [Act.put, List.setIfInBounds_toArray, List.set_cons_zero, List.set_cons_succ]
                refine take_at (i := 9) (v := ?_) (some 52) rfl rfl (by kernel_rfl) (by kernel_rfl) (by kernel_rfl) (fun _ _ _ h => h) (Or.inl ⟨by rfl, ?_⟩) trivial ?_
                rotate_left
                · (intro w hSw; go_simp; try with_reducible rfl)
                simp only [Act.put, List.setIfInBounds_toArray, List.set_cons_zero, List.set_cons_succ]
                refine skip_at (i := 10) none rfl rfl (by rfl) (by kernel_rfl) (W9.setCell ⟨w.heap.size + 1, 10, none⟩ (.slice a' (k + 1) C')) (store_skip1 24 (.tmp 52) (.tmp 51) rfl _ _ rfl rfl (store_heads _ _ _ _ c9 f9 ⟨_, _, _, rfl⟩)) trivial (fun _ => ?_)
                simp only [Act.put]
                refine wpAnyH_done (by kernel_rfl) ?_ _
                refine NoPanic.normal ?_
                go_wp2_with fail
                go_roundw
                case rel => exact ⟨k + 1, by omega, by go_num, a', C', H9.out⟩
                case measure => simp [RowKit.intOf]; omega
              · refine wpOp_value (i := 7) (some 50) rfl rfl (by rfl) (.slice (some ⟨w8.heap.size, 0, none⟩) 1 1) (w8.alloc (.cells #[.int .i64 x, .int .i64 y] 75)) (by go_simp) ⟨trivial, ?_⟩
                simp only [Act.put, List.setIfInBounds_toArray, List.set_cons_zero, List.set_cons_succ]
                refine step_at (i := 1) (some 44) rfl rfl (by rfl) (by kernel_rfl) (.slice a k C) (w8.alloc (.cells #[.int .i64 x, .int .i64 y] 75)) (by have c : (w8.alloc (.cells #[.int .i64 x, .int .i64 y] 75)).cell? ⟨w.heap.size + 1, 10, none⟩ = some (.slice a k C) := (World.cell?_alloc_past _ _ _ (by have := H8.out.1.take.bl; show w.heap.size + 1 < w8.heap.size; omega)).trans d8.out; go_simp) trivial (fun _ => ?_)
                simp only [Act.put, List.setIfInBounds_toArray, List.set_cons_zero, List.set_cons_succ]
                obtain ⟨a', C', W9, hr9, c9, f9, h9⟩ := sof_step w w8 f g k a C (by omega) H8.out x y X.out.symm Y.out.symm
                have H9 : Hid (SofH w (W9.setCell ⟨w.heap.size + 1, 10, none⟩ (.slice a' (k + 1) C')) f g (11 + 2 * (k + 1)) (k + 1) a' C') := h9
                clear h9
                refine step_at (i := 8) (some 51) rfl rfl (by rfl) (by kernel_rfl) (.slice a' (k + 1) C') W9 (app_run1 (.tmp 44) (.tmp 50) 24 24 rfl _ _ rfl rfl hr9) trivial (fun _ => ?_)
                simp only [Act.put, List.setIfInBounds_toArray, List.set_cons_zero, List.set_cons_succ]
                refine take_at (i := 9) (v := ?_) (some 52) rfl rfl (by kernel_rfl) (by kernel_rfl) (by kernel_rfl) (fun _ _ _ h => h) (Or.inl ⟨by rfl, ?_⟩) trivial ?_
                rotate_left
                · (intro w hSw; go_simp; try with_reducible rfl)
                simp only [Act.put, List.setIfInBounds_toArray, List.set_cons_zero, List.set_cons_succ]
                refine skip_at (i := 10) none rfl rfl (by rfl) (by kernel_rfl) (W9.setCell ⟨w.heap.size + 1, 10, none⟩ (.slice a' (k + 1) C')) (store_skip1 24 (.tmp 52) (.tmp 51) rfl _ _ rfl rfl (store_heads _ _ _ _ c9 f9 ⟨_, _, _, rfl⟩)) trivial (fun _ => ?_)
                simp only [Act.put]
                refine wpAnyH_done (by kernel_rfl) ?_ _
                refine NoPanic.normal ?_
                go_wp2_with fail
                go_roundw
                case rel => exact ⟨k + 1, by omega, by go_num, a', C', H9.out⟩
                case measure => simp [RowKit.intOf]; omega
          · obtain rfl : k = n := by omega
            have e0 : ¬ (k : Int) < k := by omega
            have m1 : IntKind.u32.wrap (2 * (k : Int)) = 2 * (k : Int) := by rw [IntKind.wrap_u32]; omega
            have m2 : IntKind.u32.wrap (113 - 2 * (k : Int)) = 113 - 2 * (k : Int) := by rw [IntKind.wrap_u32]; omega
            have m3 : 2 * (k : Int) % 4294967296 = 2 * (k : Int) := by omega
            have m4 : (113 - 2 * (k : Int)) % 4294967296 = 113 - 2 * (k : Int) := by omega
            have ST : Hid (sof3Rel w f g k (113 - 2 * k) (.int .u32 0) wr) := ⟨0, by omega, rfl, ⟨a, C, HH.out⟩, fun j hj => by omega⟩
            clear HH
            go_wp2_with fail
            go_loopw [57] (fun i wr => sof3Rel w f g k (113 - 2 * k) i wr) (fun i _ => 113 - 2 * k - (RowKit.intOf i).toNat)
            case atStart => exact ST.out
            case round =>
              obtain ⟨q, hq, rfl, ⟨a2, C2, hH⟩, hz⟩ := hrel
              clear ST
              have HZ : Hid (∀ j, j < q → rdN f (11 + 2 * k + j) = 0) := hz
              have HH : Hid (SofH w wr f g (11 + 2 * k + q) k a2 C2) := hH
              clear hH hz
              by_cases hlq : q < 113 - 2 * k
              · have e1 : (q : Int) < 113 - 2 * (k : Int) := by omega
                obtain ⟨z, hz⟩ : ∃ v, rdN f (11 + 2 * k + q) = v := ⟨_, rfl⟩
                have Z : Hid (rdN f (11 + 2 * k + q) = z) := hz
                clear hz
                by_cases z0 : z = 0
                · subst z0
                  go_wp2_with (go_at_call 73; refine (sof_take w _ f g (11 + 2 * k + q) (sH f k) a2 C2 HH.out.1 (by omega)).mono ?_; rintro e w8 ⟨rfl, h8, b8, _⟩; rw [Z.out]
                               have H8 : Hid (SofH w w8 f g (11 + 2 * k + (q + 1)) k a2 C2) := HH.out.but b8 (by omega) h8
                               clear h8 b8)
                  go_roundw
                  case rel =>
                    exact ⟨q + 1, by omega, by go_num, ⟨a2, C2, H8.out⟩, fun j hj => by
                      by_cases e : j = q
                      · rw [e]; exact Z.out
                      · exact HZ.out j (by omega)⟩
                  case measure => simp [RowKit.intOf]; omega
                · have NO : Hid (¬ SupOk f) := fun h => z0 (by
                    have := h.2.2 (11 + 2 * k + q) (by omega) (by rw [V10.out]; omega)
                    rw [← Z.out]; exact this)
                  have z1 : (z != 0) = true := by simpa using z0
                  clear z0
                  go_wp2_with (first
                    | (go_at_call 73; refine (sof_take w _ f g (11 + 2 * k + q) (sH f k) a2 C2 HH.out.1 (by omega)).mono ?_; rintro e w8 ⟨rfl, h8, b8, _⟩; rw [Z.out]
                       have L6 : Hid (SofS w w8 f g (11 + 2 * k + q + 1) (sH f k) a2 C2) := h8
                       clear h8 b8)
                    | (refine wpList_build_to rfl 26 _ rfl (supC sup0 none 0).toArray (by kernel_rfl) ?_)
                    | (refine wpList_store_rec rfl 26 (.tmp 2) (.tmp 62) rfl w.heap.size 0 _ (supC sup0 none 0) rfl rfl L6.out.res rfl (by kernel_rfl) (supC_one _ _ _) ?_; intro W9 R9 B9))
                  have hl := R9.run_load 26 _ Try.underlying26 rfl (by kernel_rfl)
                  refine bodyPost_ret (v := .tuple #[supV sup0 none 0, .bool false]) (by simp [results, Try.results37, asAddr, supV, hl]) rfl (.inl ⟨NO.out, rfl, ?_⟩)
                  exact L6.out.bel.trans (B9.below (Nat.le_refl _) L6.out.bel.size)
              · obtain rfl : q = 113 - 2 * k := by omega
                have OK : Hid (SupOk f) := ⟨by rw [V9.out]; omega, by rw [V10.out]; omega, fun i hi hk => by
                  rw [V10.out] at hk
                  have hk' : 11 + 2 * k ≤ i := by simpa using hk
                  have := HZ.out (i - (11 + 2 * k)) (by omega)
                  rwa [show 11 + 2 * k + (i - (11 + 2 * k)) = i by omega] at this⟩
                have e1 : ¬ ((113 - 2 * k : Nat) : Int) < 113 - 2 * (k : Int) := by omega
                have RC : Hid (Rec19 wr (w.heap.size + 1) 0 (supC (sH f k) a2 C2)) := HH.out.1.recd
                have RS : Hid (Rec19 wr w.heap.size 0 (supC sup0 none 0)) := HH.out.1.res
                go_wp2_with (first
                  | (refine wpList_load_rec rfl 26 (.tmp 4) rfl (w.heap.size + 1) 0 (supC (sH f k) a2 C2) rfl _ Try.underlying26 rfl (by kernel_rfl) RC.out ?_)
                  | (refine wpList_store_rec rfl 26 (.tmp 2) (.tmp 64) rfl w.heap.size 0 _ (supC (sH f k) a2 C2) rfl rfl RS.out rfl (by kernel_rfl) (supC_one _ _ _) ?_; intro W9 R9 B9))
                have hl := R9.run_load 26 _ Try.underlying26 rfl (by kernel_rfl)
                have es : supOf f = sH f k := by unfold supOf sH; rw [V10.out]; rfl
                refine bodyPost_ret (v := .tuple #[supV (sH f k) a2 C2, .bool true]) (by simp [results, Try.results37, asAddr, supV, hl]) rfl (.inr ⟨OK.out, a2, C2, by rw [es], ?_, ?_, ?_, ?_⟩)
                · rw [es]
                  have hO := HH.out.2.but B9 (by omega)
                  by_cases k0 : k = 0
                  · exact .inl k0
                  · obtain ⟨g2, cap, e2, _, _, hc, hg⟩ := hO.form (by omega)
                    injection e2 with e2 _ _
                    exact .inr ⟨g2, 0, e2, fun j hj => by rw [Nat.zero_add]; exact hc j (by show j < k * 2; have : j < 2 * k := hj; omega), hg⟩
                · rw [es]
                  obtain ⟨a3, c3, e3, h3⟩ := HH.out.2.slice
                  injection e3 with _ _ e3
                  show k ≤ C2
                  omega
                · intro r hr
                  rcases HH.out.2.2 with ⟨e3, _⟩ | ⟨g2, cap, cur, e3, hb, _⟩
                  · injection e3 with e3; rw [hr] at e3; cases e3
                  · injection e3 with e3; rw [hr] at e3; injection e3 with e3; rw [e3]; show w.heap.size ≤ g2; omega
                · exact HH.out.1.bel.trans (B9.below (Nat.le_refl _) HH.out.1.bel.size)
end Go.Proofs.Ytfapmogjmjlokaa
namespace Go.Proofs.Ytfapmogjmjlokaa
open Go.RowKit
/-- A load of a whole record behind a guard. -/
theorem wpList_load_w {ops : Array Oper} {rest : List Oper} {op : Oper} {a : Act} {w : World} {Q : Exit → Act → World → Prop} (hw : Region.wanted op (yielded ops a.tmps) = true) (ty : TypeId) (x : Operand) (ho : op.op = .load ty x)
    (n o : Nat) (cs : List Value) (hx : a.eval x = .pointer (some ⟨n, o, none⟩)) (d : TypeDesc) (hu : Try.prog.underlying ty = some d) (hd : d.isRow = true) (hi : (Try.prog.info? ty).map (·.size) = some cs.length)
    (h : Rec19 w n o cs) (hK : wpList Try.prog ops Q rest (a.put op.dst (.agg cs.toArray)) w) : wpList Try.prog ops Q (op :: rest) a w := by
  refine wpList_step fun K hK' => ?_
  rw [if_pos hw]
  exact wp_load_mid (P := Try.prog) ty x ho n o hx cs d h.1 hu hd hi (hK' _ _ hK)
/-- What Bytes answers of a superblock that may be. -/
def ByPost (w : World) (s : Sup) (e : Ending) (w' : World) : Prop := ∃ g, e = .returned (.tuple #[.slice (some ⟨g, 0, none⟩) 512 512, .int .i64 0]) ∧ w.heap.size ≤ g ∧ IRow w' g .u8 512 s.img ∧ Below w.heap.size w w'
set_option maxRecDepth 100000 in
set_option maxHeartbeats 400000 in
theorem bytes_no (s : Sup) (a : Option Addr) (C : Nat) (w : World) (hA : HArg w a s.k s.h) (m : ¬ s.May) :
    Calls Try.prog 10 #[supV s a C] w fun e w' => e = .returned (.tuple #[.slice none 0 0, .int .i64 2]) ∧ Below w.heap.size w w' := by
  have CK : Hid (∀ w', Below w.heap.size w w' → Calls Try.prog 16 #[supV s a C] w' fun e w'' => e = .returned (.int .i64 2) ∧ Below w'.heap.size w' w'') := fun w' hB => by
    have := check_any s a C w' (hA.below hB)
    rwa [show chkV s = 2 from if_neg m] at this
  clear hA m
  unfold supV
  unfold supV at CK
  go_enter Try.func10, Try.ntmps10
  go_wp2_with (first
    | (refine wpList_box_rec rfl 26 (.tmp 0) rfl (supC s a C) rfl w.heap.size rfl ?_; intro W0 R0 B0 z0)
    | (refine wpList_load_rec rfl 26 (.tmp 1) rfl w.heap.size 0 (supC s a C) rfl _ Try.underlying26 rfl (by kernel_rfl) R0 ?_)
    | (go_at_call 16; refine (CK.out _ B0).mono ?_; rintro e w1 ⟨rfl, B1⟩))
  go_ret2
  exact ⟨rfl, B0.trans (B1.mono B0.size)⟩
set_option maxRecDepth 100000 in
set_option maxHeartbeats 400000 in
theorem bytes_ok (s : Sup) (a : Option Addr) (C : Nat) (w : World) (hA : HArg w a s.k s.h) (m : s.May) :
    Calls Try.prog 10 #[supV s a C] w (ByPost w s) := by
  have CK : Hid (∀ w', Below w.heap.size w w' → Calls Try.prog 16 #[supV s a C] w' fun e w'' => e = .returned (.int .i64 0) ∧ Below w'.heap.size w' w'') := fun w' hB => by
    have := check_any s a C w' (hA.below hB)
    rwa [show chkV s = 0 from if_pos m] at this
  have LD : Hid (∀ w', Below w.heap.size w w' → Calls Try.prog 32 #[supV s a C] w' fun e w'' => e = .returned (.agg (cl .u8 496 s.beh).toArray) ∧ Below w'.heap.size w' w'') := fun w' hB => laid_any s a C w' (hA.below hB) m.2.1
  clear hA m
  unfold supV
  unfold supV at CK LD
  have K1 : Hid True := trivial
  have K2 : Hid True := trivial
  go_enter Try.func10, Try.ntmps10
  go_wp2_with (first
    | (refine wpList_box_rec rfl 26 (.tmp 0) rfl (supC s a C) rfl w.heap.size rfl ?_; intro W0 R0 B0 z0)
    | (have _q := K1; clear K1; refine wpList_load_rec rfl 26 (.tmp 1) rfl w.heap.size 0 (supC s a C) rfl _ Try.underlying26 rfl (by kernel_rfl) R0 ?_)
    | (go_at_call 16; refine (CK.out _ B0).mono ?_; rintro e w1 ⟨rfl, B1⟩; have R1 := R0.below B1; have E1 : Below w.heap.size w w1 := B0.trans (B1.mono B0.size); clear R0 B0 z0 B1)
    | (have _q := K2; clear K2; refine wpList_load_rec rfl 26 (.tmp 1) rfl w.heap.size 0 (supC s a C) rfl _ Try.underlying26 rfl (by kernel_rfl) R1 ?_)
    | (go_at_call 32; refine (LD.out _ E1).mono ?_; rintro e w2 ⟨rfl, B2⟩; have E2 : Below w.heap.size w w2 := E1.trans (B2.mono E1.size); clear R1 E1 B2)
    | (refine wpList_alloc_row rfl 67 rfl .u8 496 w2.heap.size rfl zero8_496 ?_; intro W3 R3 B3 z3)
    | (refine wpList_store_row rfl 67 (.tmp 5) (.tmp 12) rfl w2.heap.size .u8 496 s.beh (fun _ => 0) rfl rfl R3 (by kernel_rfl) ?_; intro W4 R4 B4 z4
       have E4 : Below w.heap.size w W4 := E2.trans ((B3.mono E2.size).trans (B4.below E2.size (by have := E2.size; omega)))
       have LL := R4.lies (fun j _ => s.beh_byte j)
       clear R3 B3 z3 B4 z4 R4 E2)
    | (go_at_call 33; refine (seal_any (some ⟨w2.heap.size, 0, none⟩) 496 496 s.beh _ (Arg.of LL) (by omega) (by omega)).mono ?_; rintro e w5 ⟨g, rfl, hg, R5, B5⟩))
  go_ret2
  exact ⟨g, rfl, Nat.le_trans E4.size hg, R5, E4.trans (B5.mono E4.size)⟩
/-- What Read answers. -/
def RdPost (w : World) (F : Nat → Int) (e : Ending) (w' : World) : Prop :=
  (¬ Whole F ∧ (∃ c : Int, e = .returned (.tuple #[supV sup0 none 0, .int .i64 c]) ∧ c = rdE F) ∧ Below w.heap.size w w') ∨
  (Whole F ∧ ∃ a C, e = .returned (.tuple #[supV (supOf (behO F)) a C, .int .i64 0]) ∧ HArg w' a (supOf (behO F)).k (supOf (behO F)).h ∧ (supOf (behO F)).k ≤ C ∧ (∀ r, a = some r → w.heap.size ≤ r.block) ∧ Below w.heap.size w w')
set_option maxRecDepth 100000 in
set_option maxHeartbeats 400000 in
theorem read_len (a : Option Addr) (n C : Nat) (w : World) (h : n ≠ 512) :
    Calls Try.prog 12 #[.slice a n C] w fun e w' => e = .returned (.tuple #[supV sup0 none 0, .int .i64 4]) ∧ Below w.heap.size w w' := by
  have e1 : ((n : Int) != 512) = true := by simp; omega
  clear h
  go_enter Try.func12, Try.ntmps12
  go_wp2_with (first
    | (refine wpList_alloc_rec rfl 26 rfl (supC sup0 none 0) w.heap.size rfl zero_super ?_; intro W0 R0 B0 z0)
    | (refine wpList_build_to rfl 26 _ rfl (supC sup0 none 0).toArray (by kernel_rfl) ?_)
    | (refine wpList_store_rec rfl 26 (.tmp 2) (.tmp 11) rfl w.heap.size 0 _ (supC sup0 none 0) rfl rfl R0 rfl (by kernel_rfl) (supC_one _ _ _) ?_; intro W9 R9 B9))
  have hl := R9.run_load 26 _ Try.underlying26 rfl (by kernel_rfl)
  refine bodyPost_ret (v := .tuple #[supV sup0 none 0, .int .i64 4]) (by simp [results, Try.results12, asAddr, supV, hl]) rfl ⟨rfl, ?_⟩
  exact B0.trans (B9.below (Nat.le_refl _) (by omega))
set_option maxRecDepth 100000 in
set_option maxHeartbeats 400000 in
theorem read_seal (b off C : Nat) (F : Nat → Int) (w : World) (hL : Lies w b off 512 F) (hC : 512 ≤ C) (ho : opens 512 F = false) :
    Calls Try.prog 12 #[.slice (some ⟨b, off, none⟩) 512 C] w fun e w' => e = .returned (.tuple #[supV sup0 none 0, .int .i64 12]) ∧ Below w.heap.size w w' := by
  have HO : Hid (∀ w', Below w.heap.size w w' → Calls Try.prog 36 #[.slice (some ⟨b, off, none⟩) 512 C] w' fun e w'' => e = .returned (.tuple #[.slice none 0 0, .int .i64 12]) ∧ Below w'.heap.size w' w'') := fun w' hB => open_nom b off 512 C F w' (hL.below hB) (by omega) hC (by omega) (by omega) ho
  clear hL ho
  go_enter Try.func12, Try.ntmps12
  go_wp2_with (first
    | (refine wpList_alloc_rec rfl 26 rfl (supC sup0 none 0) w.heap.size rfl zero_super ?_; intro W0 R0 B0 z0)
    | (go_at_call 36; refine (HO.out _ B0).mono ?_; rintro e w1 ⟨rfl, B1⟩; have R1 := R0.below B1; have E1 : Below w.heap.size w w1 := B0.trans (B1.mono B0.size); clear R0 B0 z0 B1)
    | (refine wpList_build_to rfl 26 _ rfl (supC sup0 none 0).toArray (by kernel_rfl) ?_)
    | (refine wpList_store_rec rfl 26 (.tmp 2) (.tmp 19) rfl w.heap.size 0 _ (supC sup0 none 0) rfl rfl R1 rfl (by kernel_rfl) (supC_one _ _ _) ?_; intro W9 R9 B9))
  have hl := R9.run_load 26 _ Try.underlying26 rfl (by kernel_rfl)
  refine bodyPost_ret (v := .tuple #[supV sup0 none 0, .int .i64 12]) (by simp [results, Try.results12, asAddr, supV, hl]) rfl ⟨rfl, ?_⟩
  exact E1.trans (B9.below (Nat.le_refl _) E1.size)
theorem sof_no {g : Nat} {f : Nat → Int} {w : World} (hL : Lies w g 0 496 f) (h : ¬ SupOk f) : Calls Try.prog 37 #[.slice (some ⟨g, 0, none⟩) 496 496] w fun e w' => e = .returned (.tuple #[supV sup0 none 0, .bool false]) ∧ Below w.heap.size w w' := by
  refine (superOf_any g f w hL).mono ?_
  rintro e w' (⟨_, h1, h2⟩ | ⟨h1, _⟩)
  · exact ⟨h1, h2⟩
  · exact absurd h1 h
def SofOk (w : World) (f : Nat → Int) (e : Ending) (w' : World) : Prop := ∃ a C, e = .returned (.tuple #[supV (supOf f) a C, .bool true]) ∧ HArg w' a (supOf f).k (supOf f).h ∧ (supOf f).k ≤ C ∧ (∀ r, a = some r → w.heap.size ≤ r.block) ∧ Below w.heap.size w w'
theorem sof_ok {g : Nat} {f : Nat → Int} {w : World} (hL : Lies w g 0 496 f) (h : SupOk f) : Calls Try.prog 37 #[.slice (some ⟨g, 0, none⟩) 496 496] w (SofOk w f) := by
  refine (superOf_any g f w hL).mono ?_
  rintro e w' (⟨h1, _⟩ | ⟨_, h1⟩)
  · exact absurd h h1
  · exact h1
theorem open_512 (b off C : Nat) (F : Nat → Int) (w : World) (hL : Lies w b off 512 F) (hC : 512 ≤ C) (ho : opens 512 F = true) :
    Calls Try.prog 36 #[.slice (some ⟨b, off, none⟩) 512 C] w fun e w' => ∃ g, e = .returned (.tuple #[.slice (some ⟨g, 0, none⟩) 496 496, .int .i64 0]) ∧ w.heap.size ≤ g ∧ Lies w' g 0 496 (behO F) ∧ Below w.heap.size w w' := by
  refine (open_okm b off 512 C F w hL (by omega) hC (by omega) (by omega) ho).mono ?_
  rintro e w' ⟨g, rfl, h1, h2, h3⟩
  exact ⟨g, rfl, h1, h2.lies (fun j hj => hL.2.1 _ (by omega)), h3⟩
set_option maxRecDepth 100000 in
set_option maxHeartbeats 400000 in
theorem read_form (b off C : Nat) (F : Nat → Int) (w : World) (hL : Lies w b off 512 F) (hC : 512 ≤ C) (ho : opens 512 F = true) (hs : ¬ SupOk (behO F)) :
    Calls Try.prog 12 #[.slice (some ⟨b, off, none⟩) 512 C] w fun e w' => e = .returned (.tuple #[supV sup0 none 0, .int .i64 4]) ∧ Below w.heap.size w w' := by
  have HO : Hid (∀ w', Below w.heap.size w w' → Calls Try.prog 36 #[.slice (some ⟨b, off, none⟩) 512 C] w' fun e w'' => ∃ g, e = .returned (.tuple #[.slice (some ⟨g, 0, none⟩) 496 496, .int .i64 0]) ∧ w'.heap.size ≤ g ∧ Lies w'' g 0 496 (behO F) ∧ Below w'.heap.size w' w'') := fun w' hB => open_512 b off C F w' (hL.below hB) hC ho
  have HS : Hid (¬ SupOk (behO F)) := hs
  clear hL ho hs
  have K1 : Hid True := trivial
  have K2 : Hid True := trivial
  have K3 : Hid True := trivial
  go_enter Try.func12, Try.ntmps12
  go_wp2_with (first
    | (have _q := K1; clear K1; refine wpList_alloc_rec rfl 26 rfl (supC sup0 none 0) w.heap.size rfl zero_super ?_; intro W0 R0 B0 z0)
    | (go_at_call 36; refine (HO.out _ B0).mono ?_; rintro e w1 ⟨g, rfl, hg, L1, B1⟩; have R1 := R0.below B1; have E1 : Below w.heap.size w w1 := B0.trans (B1.mono B0.size); clear R0 B0 z0 B1)
    | (go_at_call 37; refine (sof_no L1 HS.out).mono ?_; rintro e w2 ⟨rfl, B2⟩; have R2 := R1.below B2; have E2 : Below w.heap.size w w2 := E1.trans (B2.mono E1.size); clear R1 E1 B2 L1; unfold supV)
    | (have _q := K2; clear K2; refine wpList_alloc_rec rfl 26 rfl (supC sup0 none 0) w2.heap.size rfl zero_super ?_; intro W3 R3 B3 z3)
    | (have _q := K3; clear K3; refine wpList_store_rec rfl 26 (.tmp 6) (.tmp 24) rfl w2.heap.size 0 _ (supC sup0 none 0) rfl rfl R3 rfl (by kernel_rfl) (supC_one _ _ _) ?_; intro W4 R4 B4
       have R5 := (R2.below B3).but B4 (by have := R2.2.2; omega)
       have E4 : Below w.heap.size w W4 := E2.trans ((B3.mono E2.size).trans (B4.below E2.size (by have := E2.size; omega)))
       clear R2 R3 B3 z3 R4 B4 E2)
    | (refine wpList_build_to rfl 26 _ rfl (supC sup0 none 0).toArray (by kernel_rfl) ?_)
    | (refine wpList_store_rec rfl 26 (.tmp 2) (.tmp 33) rfl w.heap.size 0 _ (supC sup0 none 0) rfl rfl R5 rfl (by kernel_rfl) (supC_one _ _ _) ?_; intro W9 R9 B9))
  have hl := R9.run_load 26 _ Try.underlying26 rfl (by kernel_rfl)
  refine bodyPost_ret (v := .tuple #[supV sup0 none 0, .int .i64 4]) (by simp [results, Try.results12, asAddr, supV, hl]) rfl ⟨rfl, ?_⟩
  exact E4.trans (B9.below (Nat.le_refl _) E4.size)
set_option maxRecDepth 100000 in
set_option maxHeartbeats 400000 in
theorem read_may (b off C : Nat) (F : Nat → Int) (w : World) (hL : Lies w b off 512 F) (hC : 512 ≤ C) (ho : opens 512 F = true) (hs : SupOk (behO F)) (hm : ¬ (supOf (behO F)).May) :
    Calls Try.prog 12 #[.slice (some ⟨b, off, none⟩) 512 C] w fun e w' => e = .returned (.tuple #[supV sup0 none 0, .int .i64 4]) ∧ Below w.heap.size w w' := by
  have HO : Hid (∀ w', Below w.heap.size w w' → Calls Try.prog 36 #[.slice (some ⟨b, off, none⟩) 512 C] w' fun e w'' => ∃ g, e = .returned (.tuple #[.slice (some ⟨g, 0, none⟩) 496 496, .int .i64 0]) ∧ w'.heap.size ≤ g ∧ Lies w'' g 0 496 (behO F) ∧ Below w'.heap.size w' w'') := fun w' hB => open_512 b off C F w' (hL.below hB) hC ho
  have HS : Hid (SupOk (behO F)) := hs
  have CV : Hid (chkV (supOf (behO F)) = 2) := if_neg hm
  obtain ⟨s, es⟩ : ∃ s, supOf (behO F) = s := ⟨_, rfl⟩
  have ES : Hid (supOf (behO F) = s) := es
  rw [es] at CV
  clear hL ho hs hm es
  have K1 : Hid True := trivial
  have K2 : Hid True := trivial
  have K3 : Hid True := trivial
  go_enter Try.func12, Try.ntmps12
  go_wp2_with (first
    | (have _q := K1; clear K1; refine wpList_alloc_rec rfl 26 rfl (supC sup0 none 0) w.heap.size rfl zero_super ?_; intro W0 R0 B0 z0)
    | (go_at_call 36; refine (HO.out _ B0).mono ?_; rintro e w1 ⟨g, rfl, hg, L1, B1⟩; have R1 := R0.below B1; have E1 : Below w.heap.size w w1 := B0.trans (B1.mono B0.size); clear R0 B0 z0 B1)
    | (go_at_call 37; refine (sof_ok L1 HS.out).mono ?_; rintro e w2 ⟨a, C2, rfl, hA, _, _, B2⟩; rw [ES.out] at hA ⊢; have HA : Hid (HArg w2 a s.k s.h) := hA; have R2 := R1.below B2; have E2 : Below w.heap.size w w2 := E1.trans (B2.mono E1.size); clear R1 E1 B2 L1 hA; unfold supV)
    | (have _q := K2; clear K2; refine wpList_alloc_rec rfl 26 rfl (supC sup0 none 0) w2.heap.size rfl zero_super ?_; intro W3 R3 B3 z3)
    | (have _q := K3; clear K3; refine wpList_store_rec rfl 26 (.tmp 6) (.tmp 24) rfl w2.heap.size 0 _ (supC s a C2) rfl rfl R3 rfl (by kernel_rfl) (supC_one _ _ _) ?_; intro W4 R4 B4
       have R5 := (R2.below B3).but B4 (by have := R2.2.2; omega)
       have E3 : Below w2.heap.size w2 W4 := B3.trans (B4.below (Nat.le_refl _) (by omega))
       have E4 : Below w.heap.size w W4 := E2.trans (E3.mono E2.size)
       have H4 : Hid (HArg W4 a s.k s.h) := HA.out.below E3
       clear R2 R3 B3 z3 B4 E2 HA E3)
    | (refine wpList_load_w (by rfl) 26 (.tmp 6) rfl w2.heap.size 0 (supC s a C2) rfl _ Try.underlying26 rfl (by kernel_rfl) R4 ?_)
    | (go_at_call 16; refine (check_any s a C2 _ H4.out).mono ?_; rintro e w5 ⟨rfl, B5⟩; rw [CV.out]; have R6 := R5.below B5; have E6 : Below w.heap.size w w5 := E4.trans (B5.mono E4.size); clear R5 E4 B5 H4)
    | (refine wpList_build_to rfl 26 _ rfl (supC sup0 none 0).toArray (by kernel_rfl) ?_)
    | (refine wpList_store_rec rfl 26 (.tmp 2) (.tmp 33) rfl w.heap.size 0 _ (supC sup0 none 0) rfl rfl R6 rfl (by kernel_rfl) (supC_one _ _ _) ?_; intro W9 R9 B9))
  have hl := R9.run_load 26 _ Try.underlying26 rfl (by kernel_rfl)
  refine bodyPost_ret (v := .tuple #[supV sup0 none 0, .int .i64 4]) (by simp [results, Try.results12, asAddr, supV, hl]) rfl ⟨rfl, ?_⟩
  exact E6.trans (B9.below (Nat.le_refl _) E6.size)
/-- What Read answers of bytes that are a superblock that may be. -/
def RdOk (w : World) (F : Nat → Int) (e : Ending) (w' : World) : Prop := ∃ a C, e = .returned (.tuple #[supV (supOf (behO F)) a C, .int .i64 0]) ∧ HArg w' a (supOf (behO F)).k (supOf (behO F)).h ∧ (supOf (behO F)).k ≤ C ∧ (∀ r, a = some r → w.heap.size ≤ r.block) ∧ Below w.heap.size w w'
set_option maxRecDepth 100000 in
set_option maxHeartbeats 400000 in
theorem read_whole (b off C : Nat) (F : Nat → Int) (w : World) (hL : Lies w b off 512 F) (hC : 512 ≤ C) (ho : opens 512 F = true) (hs : SupOk (behO F)) (hm : (supOf (behO F)).May) :
    Calls Try.prog 12 #[.slice (some ⟨b, off, none⟩) 512 C] w (RdOk w F) := by
  have HO : Hid (∀ w', Below w.heap.size w w' → Calls Try.prog 36 #[.slice (some ⟨b, off, none⟩) 512 C] w' fun e w'' => ∃ g, e = .returned (.tuple #[.slice (some ⟨g, 0, none⟩) 496 496, .int .i64 0]) ∧ w'.heap.size ≤ g ∧ Lies w'' g 0 496 (behO F) ∧ Below w'.heap.size w' w'') := fun w' hB => open_512 b off C F w' (hL.below hB) hC ho
  have HS : Hid (SupOk (behO F)) := hs
  have CV : Hid (chkV (supOf (behO F)) = 0) := if_pos hm
  obtain ⟨s, es⟩ : ∃ s, supOf (behO F) = s := ⟨_, rfl⟩
  have ES : Hid (supOf (behO F) = s) := es
  rw [es] at CV
  clear hL ho hs hm es
  have K1 : Hid True := trivial
  have K2 : Hid True := trivial
  have K3 : Hid True := trivial
  have K4 : Hid True := trivial
  go_enter Try.func12, Try.ntmps12
  go_wp2_with (first
    | (have _q := K1; clear K1; refine wpList_alloc_rec rfl 26 rfl (supC sup0 none 0) w.heap.size rfl zero_super ?_; intro W0 R0 B0 z0)
    | (go_at_call 36; refine (HO.out _ B0).mono ?_; rintro e w1 ⟨g, rfl, hg, L1, B1⟩; have R1 := R0.below B1; have E1 : Below w.heap.size w w1 := B0.trans (B1.mono B0.size); clear R0 B0 z0 B1)
    | (go_at_call 37; refine (sof_ok L1 HS.out).mono ?_; rintro e w2 ⟨a, C2, rfl, hA, kc, nb, B2⟩; rw [ES.out] at hA kc ⊢; have KC : Hid (s.k ≤ C2) := kc; have NB : Hid (∀ r, a = some r → w.heap.size < r.block) := fun r hr => by { have q := nb r hr; have q1 := R1.2.2; omega }; clear kc nb; have HA : Hid (HArg w2 a s.k s.h) := hA; have R2 := R1.below B2; have E2 : Below w.heap.size w w2 := E1.trans (B2.mono E1.size); clear R1 E1 B2 L1 hA; unfold supV)
    | (have _q := K2; clear K2; refine wpList_alloc_rec rfl 26 rfl (supC sup0 none 0) w2.heap.size rfl zero_super ?_; intro W3 R3 B3 z3)
    | (have _q := K3; clear K3; refine wpList_store_rec rfl 26 (.tmp 6) (.tmp 24) rfl w2.heap.size 0 _ (supC s a C2) rfl rfl R3 rfl (by kernel_rfl) (supC_one _ _ _) ?_; intro W4 R4 B4
       have R5 := (R2.below B3).but B4 (by have := R2.2.2; omega)
       have E3 : Below w2.heap.size w2 W4 := B3.trans (B4.below (Nat.le_refl _) (by omega))
       have E4 : Below w.heap.size w W4 := E2.trans (E3.mono E2.size)
       have H4 : Hid (HArg W4 a s.k s.h) := HA.out.below E3
       clear R2 R3 B3 z3 B4 E2 HA E3)
    | (refine wpList_load_w (by rfl) 26 (.tmp 6) rfl w2.heap.size 0 (supC s a C2) rfl _ Try.underlying26 rfl (by kernel_rfl) R4 ?_)
    | (go_at_call 16; refine (check_any s a C2 _ H4.out).mono ?_; rintro e w5 ⟨rfl, B5⟩; rw [CV.out]; have R6 := R5.below B5; have R7 := R4.below B5; have HA5 : Hid (HArg w5 a s.k s.h) := H4.out.below B5; have E6 : Below w.heap.size w w5 := E4.trans (B5.mono E4.size); clear R5 E4 B5 H4 R4)
    | (have _q := K4; clear K4; refine wpList_load_rec rfl 26 (.tmp 6) rfl w2.heap.size 0 (supC s a C2) rfl _ Try.underlying26 rfl (by kernel_rfl) R7 ?_)
    | (refine wpList_store_rec rfl 26 (.tmp 2) (.tmp 34) rfl w.heap.size 0 _ (supC s a C2) rfl rfl R6 rfl (by kernel_rfl) (supC_one _ _ _) ?_; intro W9 R9 B9))
  have hl := R9.run_load 26 _ Try.underlying26 rfl (by kernel_rfl)
  refine bodyPost_ret (v := .tuple #[supV s a C2, .int .i64 0]) (by simp [results, Try.results12, asAddr, supV, hl]) rfl ⟨a, C2, by rw [ES.out], ?_, ?_, ?_, ?_⟩
  · rw [ES.out]
    exact HA5.out.off (Off.but (bs := [w.heap.size]) B9 (by simp)) (fun r hr => by have := NB.out r hr; simp; omega)
  · rw [ES.out]; exact KC.out
  · intro r hr; have := NB.out r hr; omega
  · exact E6.trans (B9.below (Nat.le_refl _) E6.size)
theorem read_ok512 (b off C : Nat) (F : Nat → Int) (w : World) (hL : Lies w b off 512 F) (hC : 512 ≤ C) (h : Whole F) : Calls Try.prog 12 #[.slice (some ⟨b, off, none⟩) 512 C] w (RdOk w F) := read_whole b off C F w hL hC h.1 h.2.1 h.2.2
theorem read_no512 (b off C : Nat) (F : Nat → Int) (w : World) (hL : Lies w b off 512 F) (hC : 512 ≤ C) (h : ¬ Whole F) : Calls Try.prog 12 #[.slice (some ⟨b, off, none⟩) 512 C] w fun e w' => e = .returned (.tuple #[supV sup0 none 0, .int .i64 (rdE F)]) ∧ Below w.heap.size w w' := by
  unfold rdE
  by_cases ho : opens 512 F = true
  · rw [if_pos ho]
    have hn : ¬ (SupOk (behO F) ∧ (supOf (behO F)).May) := fun q => h ⟨ho, q⟩
    rw [if_neg hn]
    by_cases hs : SupOk (behO F)
    · exact read_may b off C F w hL hC ho hs (fun q => hn ⟨hs, q⟩)
    · exact read_form b off C F w hL hC ho hs
  · rw [if_neg ho]
    exact read_seal b off C F w hL hC (Bool.eq_false_iff.2 ho)
theorem rdE_ne {F : Nat → Int} (h : ¬ Whole F) : rdE F = 4 ∨ rdE F = 12 := by
  unfold rdE
  by_cases ho : opens 512 F = true
  · rw [if_pos ho, if_neg (fun q => h ⟨ho, q⟩)]; exact .inl rfl
  · rw [if_neg ho]; exact .inr rfl
end Go.Proofs.Ytfapmogjmjlokaa
namespace Go.Proofs.Ytfapmogjmjlokaa
open Go.RowKit Go.Maps
/-- The cells of what is found. -/
def fndC (v : Value) (f : Nat → Int) (s : Sup) (a : Option Addr) (C : Nat) : List Value := [v] ++ cl .u8 512 f ++ supC s a C
theorem fndC_len (v : Value) (f : Nat → Int) (s : Sup) (a : Option Addr) (C : Nat) : (fndC v f s a C).length = 524 := by
  unfold fndC
  rw [List.length_append, List.length_append, cl_len, supC_len]
  rfl
theorem fndC_one (v : Value) (f : Nat → Int) (s : Sup) (a : Option Addr) (C : Nat) (hv : v.oneCell' = true) : ∀ u ∈ fndC v f s a C, u.oneCell' = true := by
  intro u hu
  unfold fndC at hu
  rcases List.mem_append.1 hu with q | q
  · rcases List.mem_append.1 q with q | q
    · simp at q; rw [q]; exact hv
    · exact cl_one _ _ _ _ q
  · exact supC_one _ _ _ _ q
/-- Nothing found. -/
def fnd0 : List Value := fndC (.slice none 0 0) (fun _ => 0) sup0 none 0
theorem zero_found : (Try.prog.info? 87).bind (·.zero) = some (.agg fnd0.toArray) := by kernel_rfl
theorem info_found : (Try.prog.info? 87).map (·.size) = some 524 := by kernel_rfl
theorem zero_image : (Try.prog.info? 85).bind (·.zero) = some (.agg (cl .u8 512 fun _ => 0).toArray) := by kernel_rfl
theorem info_image : (Try.prog.info? 85).map (·.size) = some 512 := by kernel_rfl
/-- A part of a record. -/
theorem Rec19.sub {W : World} {n : Nat} {xs ys zs : List Value} (h : Rec19 W n 0 (xs ++ ys ++ zs)) : Rec19 W n xs.length ys := by
  have e : ∀ j, j < ys.length → (xs ++ ys ++ zs)[xs.length + j]? = ys[j]? := fun j hj => by
    rw [List.append_assoc, List.getElem?_append_right (by omega), show xs.length + j - xs.length = j by omega, List.getElem?_append_left hj]
  refine ⟨fun j v hj => ?_, fun j hj => ?_, h.2.2⟩
  · have hl := (List.getElem?_eq_some_iff.1 hj).1
    have := h.1 (xs.length + j) v ((e j hl).trans hj)
    rwa [Nat.zero_add] at this
  · have := h.2.1 (xs.length + j) (by simp; omega)
    rwa [Nat.zero_add] at this
/-- A part of a record is stored. -/
theorem Rec19.subStore {W : World} {n : Nat} {xs ys zs : List Value} (h : Rec19 W n 0 (xs ++ ys ++ zs)) (vs : List Value) (hl : ys.length = vs.length) : Rec19 (W.setCells n xs.length vs) n 0 (xs ++ vs ++ zs) := by
  have hs := h.sub
  have len : (xs ++ vs ++ zs).length = (xs ++ ys ++ zs).length := by simp [hl]
  refine ⟨fun j v hj => ?_, fun j hj => ?_, by rw [size_cells]; exact h.2.2⟩
  · rw [Nat.zero_add]
    have hjl := (List.getElem?_eq_some_iff.1 hj).1
    by_cases q : xs.length ≤ j ∧ j < xs.length + vs.length
    · have := World.cell?_setCells_in n vs xs.length W (fun i hi => (hs.2.1 i (by omega)).1) (j - xs.length) (by omega)
      rw [show xs.length + (j - xs.length) = j by omega] at this
      rw [this, ← List.getElem?_eq_getElem, ← hj, List.append_assoc, List.getElem?_append_right q.1, List.getElem?_append_left (by omega)]
    · rw [World.cell?_setCells_out n _ _ _ _ (fun _ _ => by show j < xs.length ∨ xs.length + vs.length ≤ j; omega)]
      have e : (xs ++ ys ++ zs)[j]? = (xs ++ vs ++ zs)[j]? := by
        rcases Nat.lt_or_ge j xs.length with g | g
        · rw [List.append_assoc, List.append_assoc, List.getElem?_append_left g, List.getElem?_append_left g]
        · rw [List.getElem?_append_right (by simp; omega), List.getElem?_append_right (by simp; omega)]
          simp [hl]
      have := h.1 j v (e.trans hj)
      rwa [Nat.zero_add] at this
  · rw [len] at hj
    have t := h.2.1 j hj
    rw [Nat.zero_add] at t ⊢
    refine ⟨?_, by rw [World.frozen?_setCells]; exact t.2⟩
    by_cases q : xs.length ≤ j ∧ j < xs.length + vs.length
    · have := World.cell?_setCells_in n vs xs.length W (fun i hi => (hs.2.1 i (by omega)).1) (j - xs.length) (by omega)
      rw [show xs.length + (j - xs.length) = j by omega] at this
      rw [this]; rfl
    · rw [World.cell?_setCells_out n _ _ _ _ (fun _ _ => by show j < xs.length ∨ xs.length + vs.length ≤ j; omega)]
      exact t.1
/-- The open superblock, and its bytes, of the first k copies. -/
noncomputable def sB (G : Nat → Int) : Option Nat → Sup
  | none => sup0
  | some q => supOf (behO (cp G q))
def oF (G : Nat → Int) : Option Nat → Nat → Int
  | none => fun _ => 0
  | some q => cp G q
theorem sB_seq (G : Nat → Int) (b : Option Nat) : (sB G b).x 0 = seqB G b := by cases b <;> rfl
/-- What is found lies at f9. -/
def FndAt (W : World) (f9 : Nat) (v : Value) (G : Nat → Int) (b : Option Nat) (w0 : Nat) : Prop := ∃ a C, Rec19 W f9 0 (fndC v (oF G b) (sB G b) a C) ∧ HArg W a (sB G b).k (sB G b).h ∧ (sB G b).k ≤ C ∧ ∀ r, a = some r → w0 ≤ r.block ∧ r.block ≠ f9
theorem FndAt.off {W W' : World} {f9 : Nat} {v : Value} {G : Nat → Int} {b : Option Nat} {w0 : Nat} {bs : List Nat} (h : FndAt W f9 v G b w0) (hB : Off bs W W') (hf : f9 ∉ bs) (hr : ∀ r, r ∈ bs → r < w0 ∨ W.heap.size ≤ r) : FndAt W' f9 v G b w0 := by
  obtain ⟨a, C, h1, h2, h3, h4⟩ := h
  refine ⟨a, C, h1.off hB hf, ?_, h3, h4⟩
  rcases h2 with e | ⟨x, off, rfl, hc, hx⟩
  · exact .inl e
  · exact .inr ⟨x, off, rfl, fun j hj => (hB.cell (p := ⟨x, off + j, none⟩) hx (fun q => by have := (h4 _ rfl).1; rcases hr _ q with g | g; (· have g' : x < w0 := g; have t' : w0 ≤ x := this; omega); (· have g' : W.heap.size ≤ x := g; omega))).trans (hc j hj), Nat.lt_of_lt_of_le hx hB.size⟩
/-- What find answers. -/
def FindPost (W : World) (G : Nat → Int) (e : Ending) (w' : World) : Prop :=
  (best G 4 = none ∧ e = .returned (.tuple #[.agg fnd0.toArray, .int .i64 10]) ∧ Below W.heap.size W w') ∨
  (∃ q a C g, best G 4 = some q ∧ e = .returned (.tuple #[.agg (fndC (.slice (some ⟨g, 0, none⟩) 2048 2048) (cp G q) (supOf (behO (cp G q))) a C).toArray, .int .i64 0]) ∧ W.heap.size ≤ g ∧ Lies w' g 0 2048 G ∧ HArg w' a (supOf (behO (cp G q))).k (supOf (behO (cp G q))).h ∧ (supOf (behO (cp G q))).k ≤ C ∧ (∀ r, a = some r → W.heap.size ≤ r.block) ∧ Below W.heap.size W w')
/-- What readCopies answers. -/
def RcPost (W : World) (G : Nat → Int) (e : Ending) (w' : World) : Prop := ∃ g, e = .returned (.tuple #[.slice (some ⟨g, 0, none⟩) 2048 2048, .int .i64 0]) ∧ W.heap.size ≤ g ∧ IRow w' g .u8 2048 G ∧ Below W.heap.size W w'
theorem rc_ok (W : World) (d s m : Nat) (D : Dsk) (l : Int) (o : Bool) (h : DiskAt W d s m D) (hf : FuseIs W D.fz l o) (hu : D.up o = true) (hn : 8 ≤ D.N) : Calls Try.prog 50 #[.pointer (some ⟨d, 0, none⟩)] W (RcPost W D.sec) := by
  have RD : Hid (Calls Try.prog 31 #[.pointer (some ⟨d, 0, none⟩), .int .i64 0, .int .i64 8] W (ReadPost W 8 (fun j => D.sec (0 * 256 + j)))) := read_ok W d s m 0 8 D l o h hf hu (by omega)
  clear h hf hu
  go_enter Try.func50, Try.ntmps50
  go_wp2_with (go_at_call 31; refine RD.out.mono ?_; rintro e w1 ⟨rfl, R1, B1⟩)
  go_ret2
  exact ⟨W.heap.size, rfl, Nat.le_refl _, R1.congr (fun j _ => by rw [Nat.zero_mul, Nat.zero_add]), B1⟩
theorem rc_er (W : World) (p : Option Addr) (c : Int) (h : Calls Try.prog 31 #[.pointer p, .int .i64 0, .int .i64 8] W fun e w' => e = .returned (.tuple #[.slice none 0 0, .int .i64 c]) ∧ w' = W) : Calls Try.prog 50 #[.pointer p] W fun e w' => e = .returned (.tuple #[.slice none 0 0, .int .i64 c]) ∧ w' = W := by
  have RD : Hid (Calls Try.prog 31 #[.pointer p, .int .i64 0, .int .i64 8] W fun e w' => e = .returned (.tuple #[.slice none 0 0, .int .i64 c]) ∧ w' = W) := h
  clear h
  go_enter Try.func50, Try.ntmps50
  go_wp2_with (go_at_call 31; refine RD.out.mono ?_; rintro e w1 ⟨rfl, rfl⟩)
  go_ret2
  exact ⟨rfl, rfl⟩
end Go.Proofs.Ytfapmogjmjlokaa
namespace Go.Proofs.Ytfapmogjmjlokaa
open Go.RowKit Go.Maps
/-- A disk of few changes, without a fuse, up. -/
def Dsk.few (D : Dsk) (n : Int) : Prop := D.fz = none ∧ D.out = false ∧ 0 ≤ D.ops ∧ D.ops ≤ n
theorem Dsk.few.free {D : Dsk} {n : Int} (h : D.few n) (hn : n ≤ 1000000) : D.free := ⟨h.1, h.2.1, h.2.2.1, by have := h.2.2.2; omega⟩
theorem Dsk.few.mono {D : Dsk} {n n' : Int} (h : D.few n) (hn : n ≤ n') : D.few n' := ⟨h.1, h.2.1, h.2.2.1, by have := h.2.2.2; omega⟩
theorem Dsk.few.wrote {D : Dsk} {n : Int} (h : D.few n) (a : Nat) (F : Nat → Int) (k : Nat) : ((D.wrote a F k).more).few (n + 1) := by
  obtain ⟨h1, h2, h3, h4⟩ := h
  refine ⟨(D.wrote_fz a F k).trans h1, (D.wrote_out a F k).trans h2, ?_, ?_⟩
  · show 0 ≤ (D.wrote a F k).ops + 1; rw [D.wrote_ops]; omega
  · show (D.wrote a F k).ops + 1 ≤ n + 1; rw [D.wrote_ops]; omega
theorem Dsk.few.safe {D : Dsk} {n : Int} (h : D.few n) : (D.safe.more).few (n + 1) := by
  obtain ⟨h1, h2, h3, h4⟩ := h
  exact ⟨h1, h2, by show 0 ≤ D.ops + 1; omega, by show D.ops + 1 ≤ n + 1; omega⟩
/-- What keep makes of a disk. -/
def Dsk.kept (D : Dsk) (a : Nat) (F : Nat → Int) (k : Nat) : Dsk := ((D.wrote a F k).more).safe.more
theorem Dsk.few.kept {D : Dsk} {n : Int} (h : D.few n) (a : Nat) (F : Nat → Int) (k : Nat) : (D.kept a F k).few (n + 2) := by
  have := (h.wrote a F k).safe
  exact this.mono (by omega)
theorem Dsk.kept_N (D : Dsk) (a : Nat) (F : Nat → Int) (k : Nat) : (D.kept a F k).N = D.N := D.wrote_N a F k
/-- What keep leaves. -/
def KeptPost (w0 W : World) (d s m : Nat) (D' : Dsk) (e : Ending) (w' : World) : Prop := e = .returned (.int .i64 0) ∧ ∃ m', St w0 w' d s m' D' ∧ (m' = m ∨ W.heap.size ≤ m') ∧ Off [d, s, m] W w'
set_option maxRecDepth 100000 in
theorem keep_st (w0 W : World) (d s m x b off c n C : Nat) (D : Dsk) (f : Nat → Int) (h : St w0 W d s m D) (hf : D.few 1000) (hx : x ≤ 1000) (hn : n = c * 256) (hL : Lies W b off (c * 256) f) (hc1 : 1 ≤ c) (hc : c ≤ 8) (hC : c * 256 ≤ C) (ha : x * 2 + c ≤ D.N) (hb : b ≠ s ∧ b ≠ m) :
    Calls Try.prog 49 #[.pointer (some ⟨d, 0, none⟩), .int .i64 (x : Int), .slice (some ⟨b, off, none⟩) n C] W (KeptPost w0 W d s m (D.kept (x * 2) f c)) := by
  have WR : Hid (Calls Try.prog 62 #[.pointer (some ⟨d, 0, none⟩), .int .i64 ((x : Int) * 2), .slice (some ⟨b, off, none⟩) n C] W (StPost w0 W d s (D.wrote (x * 2) f c).more [d, s, m] 0)) := by
    have hfr : D.free := hf.free (by decide)
    have hi : (x : Int) * 2 = ((x * 2 : Nat) : Int) := by omega
    exact st_write w0 W d s m (x * 2) b off c n C ((x : Int) * 2) D f h hfr hi hn hL hc1 hc hC ha hb
  have FL : Hid (∀ w' m', St w0 w' d s m' (D.wrote (x * 2) f c).more → Calls Try.prog 63 #[.pointer (some ⟨d, 0, none⟩)] w' (StPost w0 w' d s (D.wrote (x * 2) f c).more.safe.more [d, m'] 0)) := fun w' m' h' => st_flush w0 w' d s m' _ h' ((hf.wrote (x * 2) f c).free (by decide))
  have GD : Hid (d < W.heap.size ∧ s < W.heap.size ∧ m < W.heap.size ∧ d ≠ m ∧ s ≠ m ∧ d ≠ s) := ⟨h.at'.dl, h.at'.sl, h.at'.ml, h.at'.dm, h.at'.sm, h.at'.ds⟩
  have i1 : IntKind.i64.wrap ((x : Int) * 2) = (x : Int) * 2 := by rw [IntKind.wrap_i64]; omega
  have i2 : wrap64 ((x : Int) * 2) = (x : Int) * 2 := by unfold wrap64; omega
  clear h hf hL hn hc1 hc hC ha hb
  go_enter Try.func49, Try.ntmps49
  go_wp2_with (first
    | (go_at_call 62; refine WR.out.mono ?_; rintro e w1 ⟨rfl, m1, h1, hm1, o1⟩; have H1 : Hid (St w0 w1 d s m1 (D.wrote (x * 2) f c).more ∧ (m1 ∈ [d, s, m] ∨ W.heap.size ≤ m1) ∧ Off [d, s, m] W w1) := ⟨h1, hm1, o1⟩; clear h1 hm1 o1)
    | (go_at_call 63; refine (FL.out _ m1 H1.out.1).mono ?_; rintro e w2 ⟨rfl, m2, h2, hm2, o2⟩; have H2 : Hid (St w0 w2 d s m2 (D.wrote (x * 2) f c).more.safe.more ∧ (m2 ∈ [d, m1] ∨ w1.heap.size ≤ m2) ∧ Off [d, m1] w1 w2) := ⟨h2, hm2, o2⟩; clear h2 hm2 o2))
  go_ret
  obtain ⟨h1, hm1, o1⟩ := H1.out
  obtain ⟨h2, hm2, o2⟩ := H2.out
  obtain ⟨g1, g2, g3, g4, g5, g6⟩ := GD.out
  have m1' : m1 = m ∨ W.heap.size ≤ m1 := by
    rcases hm1 with q | q
    · simp at q
      rcases q with q | q | q
      · exact absurd q.symm h1.at'.dm
      · exact absurd q.symm h1.at'.sm
      · exact .inl q
    · exact .inr q
  have m2' : m2 = m ∨ W.heap.size ≤ m2 := by
    rcases hm2 with q | q
    · simp at q
      rcases q with q | q
      · exact absurd q.symm h2.at'.dm
      · rw [q]; exact m1'
    · exact .inr (Nat.le_trans o1.size q)
  refine ⟨rfl, m2, h2, m2', o1.far o2 (fun y q => ?_)⟩
  simp at q
  rcases q with q | q
  · exact .inl (by simp [q])
  · rcases m1' with r | r
    · exact .inl (by simp [q, r])
    · exact .inr (by omega)
end Go.Proofs.Ytfapmogjmjlokaa
namespace Go.Proofs.Ytfapmogjmjlokaa
open Go.RowKit Go.Maps Go.Shelf
set_option maxRecDepth 100000 in
set_option maxHeartbeats 400000 in
theorem find_er (W : World) (p : Option Addr) (c : Int) (hc : c ≠ 0) (h : ∀ u, Below W.heap.size W u → Calls Try.prog 31 #[.pointer p, .int .i64 0, .int .i64 8] u fun e w' => e = .returned (.tuple #[.slice none 0 0, .int .i64 c]) ∧ w' = u) :
    Calls Try.prog 46 #[.pointer p] W fun e w' => e = .returned (.tuple #[.agg fnd0.toArray, .int .i64 c]) ∧ Below W.heap.size W w' := by
  have RC : Hid (∀ u, Below W.heap.size W u → Calls Try.prog 50 #[.pointer p] u fun e w' => e = .returned (.tuple #[.slice none 0 0, .int .i64 c]) ∧ w' = u) := fun u hu => rc_er u p c (h u hu)
  have c1 : (c != 0) = true := by simpa using hc
  clear h hc
  go_enter Try.func46, Try.ntmps46
  go_wp2_with (first
    | (refine wpList_alloc_rec rfl 87 rfl fnd0 W.heap.size rfl zero_found ?_; intro W0 R0 B0 z0)
    | (go_at_call 50; refine (RC.out _ B0).mono ?_; rintro e w1 ⟨rfl, rfl⟩)
    | (refine wpList_build_to rfl 87 _ rfl fnd0.toArray (by kernel_rfl) ?_)
    | (refine wpList_store_rec rfl 87 (.tmp 2) (.tmp 21) rfl W.heap.size 0 _ fnd0 rfl rfl R0 rfl (by rw [show fnd0.length = 524 from fndC_len _ _ _ _ _]; exact info_found) (fndC_one _ _ _ _ _ rfl) ?_; intro W9 R9 B9))
  have hl := R9.run_load 87 _ Try.underlying87 rfl (by rw [show fnd0.length = 524 from fndC_len _ _ _ _ _]; exact info_found)
  refine bodyPost_ret (v := .tuple #[.agg fnd0.toArray, .int .i64 c]) (by simp [results, Try.results46, asAddr, hl]) rfl ⟨rfl, ?_⟩
  exact B0.trans (B9.below (Nat.le_refl _) (by omega))
theorem lookup_run {a : Act} {w : World} {o : Oper} (t : TypeId) (m x : Operand) (hop : o.op = .lookup t m x false) (M X : Value) (hm : a.eval m = M) (hx : a.eval x = X) {v : Value} (hr : (Instr.lookup t M X false).run Try.prog w = .ok v w) : (execOp a.eval o).run Try.prog w = .ok (.value v) w := by
  simp [execOp, hop, hm, hx, hr, Result.andThen]
theorem entry_run {a : Act} {w w' : World} {o : Oper} (t : TypeId) (m x : Operand) (hop : o.op = .mapEntry t m x) (M X : Value) (hm : a.eval m = M) (hx : a.eval x = X) {v : Value} (hr : (Instr.mapEntry t M X).run Try.prog w = .ok v w') : (execOp a.eval o).run Try.prog w = .ok (.value v) w' := by
  simp [execOp, hop, hm, hx, hr, Result.andThen]
theorem estore_run {a : Act} {w w' : World} {o : Oper} (t : TypeId) (m x y : Operand) (hop : o.op = .entryStore t m x y) (M X Y : Value) (hm : a.eval m = M) (hx : a.eval x = X) (hy : a.eval y = Y) (hr : (Instr.entryStore t M X Y).run Try.prog w = .ok () w') : (execOp a.eval o).run Try.prog w = .ok .skip w' := by
  simp [execOp, hop, hm, hx, hy, hr, Result.andThen]
/-- While votes are counted. -/
def vI (V0 : World) (mv : Nat) (G : Nat → Int) (k : Nat) (X : World) : Prop := Off [mv] V0 X ∧ VotesOk X mv G k
theorem row_off {B : Nat} {X Y : World} {row : Option Nat} (hg : X.grownBy Y row) (hr : ∀ r, row = some r → B ≤ r ∧ ∃ o : Obj, X.heap[r]? = some o ∧ o.isCells = false) : Off row.toList X Y ∧ ∀ b, b ∈ row.toList → B ≤ b :=
  ⟨Off.grown hg (fun r e => by rw [e]; simp), fun b hb => (hr b (fz_mem hb)).1⟩
theorem vI_own (V0 : World) (mv : Nat) (G : Nat → Int) (hm : mv < V0.heap.size) : OwnFrom V0.heap.size (vI V0 mv G) := by
  rintro k X Y row ⟨h1, h2⟩ hg hr
  obtain ⟨O, hb⟩ := row_off hg hr
  exact ⟨h1.far O (fun b q => .inr (hb b q)), h2.off O (fun q => by have := hb _ q; omega)⟩
def cntS (mv c : Nat) (f : Nat → Int) (X : World) : Prop := X.cell? ⟨mv + 1, 0, none⟩ = some (.map (some mv)) ∧ X.rangeAt c 0 (cl .u8 512 f)
/-- What a round of counting has. -/
theorem vote_round (V0 X X2 X3 : World) (mv k l : Nat) (G : Nat → Int) (hk : k < 4) (hc6 : V0.cell? ⟨mv + 1, 0, none⟩ = some (.map (some mv))) (hz : mv + 1 < V0.heap.size) (hG : ∀ j, j < 2048 → 0 ≤ G j ∧ G j < 256) (hI : vI V0 mv G k X) (hl : V0.heap.size ≤ l) (hlX : l < X.heap.size)
    (R2 : Rec19 X2 X.heap.size 0 (cl .u8 512 (cp G k))) (B2 : Below X.heap.size X X2) (hB3 : But l X2 X3) :
    ∃ (v0 : Value) (st : Nat) (w1 w3 : World), (Instr.lookup 113 (.map (some mv)) (imgV (cp G k)) false).run Try.prog X3.drew = .ok (.int .i64 ((cnt G (cp G k) k : Nat) : Int)) X3.drew ∧
      (Instr.mapEntry 113 (.map (some mv)) (imgV (cp G k))).run Try.prog X3.drew = .ok (.tuple #[v0, goInt st]) w1 ∧
      (Instr.lookup 113 (.map (some mv)) (imgV (cp G k)) false).run Try.prog w1 = .ok (.int .i64 ((cnt G (cp G k) k : Nat) : Int)) w1 ∧
      (Instr.entryStore 113 (.map (some mv)) (goInt st) (.int .i64 ((cnt G (cp G k) k : Nat) + 1 : Int))).run Try.prog w1 = .ok () w3 ∧
      cntS mv X.heap.size (cp G k) X3.drew ∧ cntS mv X.heap.size (cp G k) w1 ∧ cntS mv X.heap.size (cp G k) w3 ∧ KeepsFrom V0.heap.size X3 w3 ∧ vI V0 mv G (k + 1) w3 := by
  obtain ⟨h1, h2⟩ := hI
  have o2 : Off [mv] V0 X2 := h1.trans (Off.of B2)
  have o3 : Off [mv] V0 X3 := o2.far (Off.but hB3 (List.mem_singleton.2 rfl)) (fun b q => by rw [List.mem_singleton] at q; exact .inr (by omega))
  have v3 : VotesOk X3.drew mv G k := ((h2.off (Off.of (bs := []) B2) (by simp)).off (bs := [l]) (Off.but hB3 (by simp)) (by have := hz; simp; omega)).off (bs := []) (Off.of (Below.refl _ _).drew) (by simp)
  obtain ⟨v0, st, w1, w3, e1, e2, e3, e4, g1, g3⟩ := v3.bump (fun j hj => hG _ (by omega)) hk
  have ow1 : Off [mv] X3.drew w1 := Off.grown g1 (fun r e => by injection e with e; simp [e])
  have ow3 : Off [mv] X3.drew w3 := Off.grown g3 (fun r e => by injection e with e; simp [e])
  have c3 : X3.drew.cell? ⟨mv + 1, 0, none⟩ = some (.map (some mv)) := (o3.cell (p := ⟨mv + 1, 0, none⟩) hz (by simp)).trans hc6
  have sz3 : mv + 1 < X3.drew.heap.size := Nat.lt_of_lt_of_le hz o3.size
  have r3 : Rec19 X3.drew X.heap.size 0 (cl .u8 512 (cp G k)) := (R2.but hB3 (by omega)).below (Below.refl _ _).drew
  have nmv : X.heap.size ≠ mv := by have := h2.lt; omega
  refine ⟨v0, st, w1, w3, v3.look (fun j hj => hG _ (by omega)), e1, e2, e3, ⟨c3, r3.1⟩, ⟨(ow1.cell (p := ⟨mv + 1, 0, none⟩) sz3 (by simp)).trans c3, (r3.off ow1 (by simpa using nmv)).1⟩, ⟨(ow3.cell (p := ⟨mv + 1, 0, none⟩) sz3 (by simp)).trans c3, (r3.off ow3 (by simpa using nmv)).1⟩, ?_, (o3.trans (Off.of (Below.refl _ _).drew)).trans ow3, e4⟩
  have := keeps_off (B := V0.heap.size) ow3 (by simp; omega)
  exact ⟨this.size, this.same⟩
theorem build_run1 {a : Act} {w : World} {o : Oper} (t : TypeId) (parts : Array (Nat × Operand)) (ho : o.op = .build t parts) (cells : Array Value) (hf : Try.prog.built t (parts.map fun (i, x) => (i, a.eval x)).toList = some cells) :
    (execOp a.eval o).run Try.prog w = .ok (.value (.agg cells)) w := by
  unfold execOp
  simp only [ho, Sem.run_bind, run_build w t _ cells hf, Result.andThen_ok]
  rfl
theorem keeps_below {B : Nat} {W W' : World} (h : Below W.heap.size W W') : KeepsFrom B W W' := ⟨h.size, fun k _ _ ho _ => (h.block k (Array.getElem?_eq_some_iff.1 ho).1).trans ho⟩
theorem keeps_but {B b : Nat} {W W' : World} (h : But b W W') (hb : b < B) : KeepsFrom B W W' := ⟨h.size, fun k _ hk ho _ => (h.block k (Array.getElem?_eq_some_iff.1 ho).1 (by omega)).trans ho⟩
/-- While the open copy is looked for. -/
def pI (V2 : World) (f9 : Nat) (v : Value) (G : Nat → Int) (k : Nat) (X : World) : Prop := Off [f9] V2 X ∧ FndAt X f9 v G (best G k) V2.heap.size
theorem pI_own (V2 : World) (f9 : Nat) (v : Value) (G : Nat → Int) (hf : f9 < V2.heap.size) : OwnFrom V2.heap.size (pI V2 f9 v G) := by
  rintro k X Y row ⟨h1, a, C, h2, h3, h4, h5⟩ hg hr
  obtain ⟨O, hb⟩ := row_off hg hr
  refine ⟨h1.far O (fun b q => .inr (hb b q)), a, C, h2.off O (fun q => by have := hb _ q; omega), ?_, h4, h5⟩
  rcases h3 with e | ⟨x, off, rfl, hc, hx⟩
  · exact .inl e
  · exact .inr ⟨x, off, rfl, fun j hj => cell_kept (hc j hj) hg (fun r e => (hr r e).2), Nat.lt_of_lt_of_le hx O.size⟩
/-- What a round of looking has. -/
structure PickS (V2 X3 : World) (f9 mv c k : Nat) (v : Value) (G : Nat → Int) : Prop where
  map : X3.cell? ⟨mv + 1, 0, none⟩ = some (.map (some mv))
  rng : X3.rangeAt c 0 (cl .u8 512 (cp G k))
  lies : Lies X3 c 0 512 (cp G k)
  look : (Instr.lookup 113 (.map (some mv)) (.agg (cl .u8 512 (cp G k)).toArray) false).run Try.prog X3 = .ok (.int .i64 ((votes G k : Nat) : Int)) X3
  inv : Off [f9] V2 X3 ∧ FndAt X3 f9 v G (best G k) V2.heap.size
  nc : c ≠ f9
  lc : c < X3.heap.size
theorem pick_round (V2 X X2 X3 : World) (f9 mv k l : Nat) (v : Value) (G : Nat → Int) (hk : k < 4) (hf : f9 < V2.heap.size) (hm : mv + 1 < f9) (hc6 : V2.cell? ⟨mv + 1, 0, none⟩ = some (.map (some mv))) (hv : VotesOk V2 mv G 4) (hG : ∀ j, j < 2048 → 0 ≤ G j ∧ G j < 256) (hI : pI V2 f9 v G k X) (hl : V2.heap.size ≤ l) (hlX : l < X.heap.size) (hlo : ∃ r, X.heap[l]? = some (.loop r))
    (R2 : Rec19 X2 X.heap.size 0 (cl .u8 512 (cp G k))) (B2 : Below X.heap.size X X2) (hB3 : But l X2 X3) : PickS V2 X3 f9 mv X.heap.size k v G := by
  obtain ⟨h1, a, C, h2, h3, h4, h5⟩ := hI
  have o2 : Off [f9] V2 X2 := h1.trans (Off.of B2)
  have o3 : Off [f9] V2 X3 := o2.far (Off.but hB3 (List.mem_singleton.2 rfl)) (fun b q => by rw [List.mem_singleton] at q; exact .inr (by omega))
  have r3 : Rec19 X3 X.heap.size 0 (cl .u8 512 (cp G k)) := R2.but hB3 (by omega)
  have bb : ∀ j, j < 512 → 0 ≤ cp G k j ∧ cp G k j < 256 := fun j hj => hG _ (by omega)
  refine ⟨(o3.cell (p := ⟨mv + 1, 0, none⟩) (by show mv + 1 < V2.heap.size; omega) (by simp; omega)).trans hc6, r3.1, ⟨fun j hj => ?_, bb, r3.2.2⟩, (hv.off o3 (by simp; omega)).look bb, ⟨o3, a, C, (h2.below B2).but hB3 (by omega), ?_, h4, h5⟩, by have := h2.2.2; omega, r3.2.2⟩
  · have := r3.1 j _ (cl_at .u8 512 (cp G k) j hj)
    exact this
  · rcases h3 with e | ⟨x, off, rfl, hc, hx⟩
    · exact .inl e
    · by_cases k0 : (sB G (best G k)).k = 0
      · exact .inl k0
      · have xl : x ≠ l := fun e => by
          obtain ⟨r, hr⟩ := hlo
          obtain ⟨o, ho, hoc⟩ := cells_of_cell (hc 0 (by omega))
          have ho' : X.heap[x]? = some o := ho
          rw [e, hr] at ho'
          injection ho' with ho'
          rw [← ho'] at hoc
          cases hoc
        exact .inr ⟨x, off, rfl, fun j hj => (hB3.cell (p := ⟨x, off + j, none⟩) (Nat.lt_of_lt_of_le hx B2.size) xl).trans ((B2.cell (p := ⟨x, off + j, none⟩) hx).trans (hc j hj)), Nat.lt_of_lt_of_le (Nat.lt_of_lt_of_le hx B2.size) hB3.size⟩
theorem best_same {G : Nat → Int} {k : Nat} (h : ¬ (2 ≤ votes G k ∧ Whole (cp G k) ∧ seqB G (best G k) < seqO G k)) : best G (k + 1) = best G k := by rw [best_succ, if_neg h]
theorem best_new {G : Nat → Int} {k : Nat} (h : 2 ≤ votes G k ∧ Whole (cp G k) ∧ seqB G (best G k) < seqO G k) : best G (k + 1) = some k := by rw [best_succ, if_pos h]
/-- What stays, stays. -/
theorem PickS.stay {V2 X3 Y : World} {f9 mv c k : Nat} {v : Value} {G : Nat → Int} (h : PickS V2 X3 f9 mv c k v G) (hB : Below X3.heap.size X3 Y) (hb : ¬ (2 ≤ votes G k ∧ Whole (cp G k) ∧ seqB G (best G k) < seqO G k)) : KeepsFrom V2.heap.size X3 Y ∧ pI V2 f9 v G (k + 1) Y := by
  refine ⟨keeps_below hB, h.inv.1.trans (Off.of hB), ?_⟩
  rw [best_same hb]
  exact h.inv.2.off (bs := []) (Off.of hB) (by simp) (by simp)
/-- Two stores into what is found. -/
theorem pick_store {W : World} {f9 : Nat} {v : Value} {f f' : Nat → Int} {s s' : Sup} {a a' : Option Addr} {C C' : Nat} (h : Rec19 W f9 0 (fndC v f s a C)) :
    Rec19 W f9 1 (cl .u8 512 f) ∧ Rec19 (W.setCells f9 1 (cl .u8 512 f')) f9 513 (supC s a C) ∧ Rec19 ((W.setCells f9 1 (cl .u8 512 f')).setCells f9 513 (supC s' a' C')) f9 0 (fndC v f' s' a' C') ∧ But f9 W ((W.setCells f9 1 (cl .u8 512 f')).setCells f9 513 (supC s' a' C')) := by
  have l1 : ([v] ++ cl .u8 512 f').length = 513 := by rw [List.length_append, cl_len]; rfl
  have h0 : Rec19 W f9 0 ([v] ++ cl .u8 512 f ++ supC s a C) := h
  have h1 : Rec19 (W.setCells f9 1 (cl .u8 512 f')) f9 0 ([v] ++ cl .u8 512 f' ++ supC s a C) := h0.subStore (cl .u8 512 f') (by rw [cl_len, cl_len])
  have h1' : Rec19 (W.setCells f9 1 (cl .u8 512 f')) f9 0 (([v] ++ cl .u8 512 f') ++ supC s a C ++ []) := by rw [List.append_nil]; exact h1
  have h2 := h1'.sub
  have h3 := h1'.subStore (supC s' a' C') rfl
  rw [l1] at h2 h3
  rw [List.append_nil] at h3
  exact ⟨h0.sub, h2, h3, (But.cells _ _ _).trans (But.cells _ _ _)⟩
/-- The copy is open from then on. -/
theorem PickS.take {V2 X3 Y : World} {f9 mv c k : Nat} {v : Value} {G : Nat → Int} (h : PickS V2 X3 f9 mv c k v G) (hB : Below X3.heap.size X3 Y) (hb : 2 ≤ votes G k ∧ Whole (cp G k) ∧ seqB G (best G k) < seqO G k) (a' : Option Addr) (C' : Nat) (hA : HArg Y a' (supOf (behO (cp G k))).k (supOf (behO (cp G k))).h) (hC : (supOf (behO (cp G k))).k ≤ C') (hr : ∀ r, a' = some r → X3.heap.size ≤ r.block) (hf : f9 < V2.heap.size) :
    KeepsFrom V2.heap.size X3 ((Y.setCells f9 1 (cl .u8 512 (cp G k))).setCells f9 513 (supC (supOf (behO (cp G k))) a' C')) ∧ pI V2 f9 v G (k + 1) ((Y.setCells f9 1 (cl .u8 512 (cp G k))).setCells f9 513 (supC (supOf (behO (cp G k))) a' C')) := by
  obtain ⟨o3, a, C, h2, _, _, _⟩ := h.inv
  obtain ⟨_, _, q3, q4⟩ := pick_store (f' := cp G k) (s' := supOf (behO (cp G k))) (a' := a') (C' := C') (h2.below hB)
  have fl : f9 < X3.heap.size := h2.2.2
  refine ⟨(keeps_below hB).trans (keeps_but q4 hf), (o3.trans (Off.of hB)).trans (Off.but q4 (by simp)), ?_⟩
  rw [best_new hb]
  refine ⟨a', C', q3, hA.off (Off.but (bs := [f9]) q4 (by simp)) (fun r e => by have := hr r e; simp; omega), hC, fun r e => ?_⟩
  have := hr r e
  have := o3.size
  omega
theorem FndAt.seq {W : World} {f9 : Nat} {v : Value} {G : Nat → Int} {b : Option Nat} {w0 : Nat} (h : FndAt W f9 v G b w0) : W.cell? ⟨f9, 513, none⟩ = some (.int .i64 (seqB G b)) := by
  obtain ⟨a, C, h1, _⟩ := h
  have h1' : Rec19 W f9 0 (([v] ++ cl .u8 512 (oF G b)) ++ supC (sB G b) a C ++ []) := by rw [List.append_nil]; exact h1
  have h2 := h1'.sub
  rw [show ([v] ++ cl .u8 512 (oF G b)).length = 513 by rw [List.length_append, cl_len]; rfl] at h2
  have := h2.1 0 (.int .i64 ((sB G b).x 0)) rfl
  rw [sB_seq] at this
  exact this
theorem range_but {W W' : World} {b c off : Nat} {cs : List Value} (h : W.rangeAt b off cs) (hB : But c W W') (hb : b < W.heap.size) (hn : b ≠ c) : W'.rangeAt b off cs := fun j v hj => (hB.cell (p := ⟨b, off + j, none⟩) hb hn).trans (h j v hj)
theorem range_below {W W' : World} {b off : Nat} {cs : List Value} (h : W.rangeAt b off cs) (hB : Below W.heap.size W W') (hb : b < W.heap.size) : W'.rangeAt b off cs := fun j v hj => (hB.cell (p := ⟨b, off + j, none⟩) hb).trans (h j v hj)
theorem HArg.put {W : World} {a : Option Addr} {k : Nat} {h : Nat → Int} (hA : HArg W a k h) {l : Nat} {o : Obj} (o' : Obj) (hl : W.heap[l]? = some o) (ho : o.isCells = false) : HArg (W.putObj l o') a k h := by
  rcases hA with e | ⟨x, off, rfl, hc, hx⟩
  · exact .inl e
  · exact .inr ⟨x, off, rfl, fun j hj => cell_kept (hc j hj) (grownBy_putObj' W l o') (fun r e => by injection e with e; subst e; exact ⟨o, hl, ho⟩), by simp [World.putObj]; exact hx⟩
def pickS (c sb : Nat) (f : Nat → Int) (s : Sup) (a : Option Addr) (C : Nat) (X : World) : Prop := X.rangeAt c 0 (cl .u8 512 f) ∧ X.rangeAt sb 0 (supC s a C)
attribute [local go_sem] Oper.semAt_some
set_option maxRecDepth 100000 in
set_option maxHeartbeats 1000000 in
theorem find_go (W : World) (d s m : Nat) (D : Dsk) (l : Int) (o : Bool) (h : DiskAt W d s m D) (hf : FuseIs W D.fz l o) (hu : D.up o = true) (hn : 8 ≤ D.N) : Calls Try.prog 46 #[.pointer (some ⟨d, 0, none⟩)] W (FindPost W D.sec) := by
  have RC : Hid (∀ u, Below W.heap.size W u → Calls Try.prog 50 #[.pointer (some ⟨d, 0, none⟩)] u (RcPost u D.sec)) := fun u hB => rc_ok u d s m D l o (h.below hB) (hf.below hB) hu hn
  have GB : Hid (∀ j, j < 2048 → 0 ≤ D.sec j ∧ D.sec j < 256) := fun j hj => h.sb j (by omega)
  obtain ⟨G, hG⟩ : ∃ G, D.sec = G := ⟨_, rfl⟩
  rw [hG] at RC GB ⊢
  clear h hf hu hG
  refine (callsIn_wide (n := 5)).1 ?_
  refine callsIn_of_wp_marks Try.func46 rfl trivial ?_ rfl
  simp only [Try.ntmps46, List.size_toArray, List.length_cons, List.length_nil, Nat.reduceAdd, Nat.reduceSub, Array.replicate_succ, Array.replicate_zero, List.push_toArray, List.append_toArray, List.nil_append, List.cons_append]
  have hmm := fun w => run_makeMap (P := Try.prog) 113 w
  gi_wp2_with (refine wpListIn_alloc_rec rfl 87 rfl fnd0 zero_found ?_; intro W0 R0 B0 z0 _)
  refine ⟨trivial, ?_⟩
  refine CallsIn.mono ((callsIn_wide (n := _)).2 (RC.out _ B0)) ?_
  rintro e w1 ⟨g, rfl, hg, R1, B1⟩
  gi_wp2
  refine ⟨trivial, ?_⟩
  refine CallsIn.mono (copies_in _ _ trivial rfl _ _ _ _) ?_
  rintro e w2 ⟨rfl, hw2⟩
  gi_wp2
  have F1 : (((w1.alloc (.map #[] 0)).alloc (.cells #[.map (some w1.heap.size)] 113)).alloc (.cells #[.slice (some ⟨g, 0, none⟩) 2048 2048] 27)).cell? ⟨w1.heap.size + 1, 0, none⟩ = some (.map (some w1.heap.size)) := by simp [go_sem]
  have F2 : CopMem (w1.heap.size + 1 + 1) g G (((w1.alloc (.map #[] 0)).alloc (.cells #[.map (some w1.heap.size)] 113)).alloc (.cells #[.slice (some ⟨g, 0, none⟩) 2048 2048] 27)) := ⟨by simp [go_sem], (((R1.lies GB.out).alloc _).alloc _).alloc _⟩
  have F3 : VotesOk (((w1.alloc (.map #[] 0)).alloc (.cells #[.map (some w1.heap.size)] 113)).alloc (.cells #[.slice (some ⟨g, 0, none⟩) 2048 2048] 27)) w1.heap.size G 0 := ((VotesOk.new w1 G).off (bs := []) (Off.of ((Below.refl _ _).alloc (Nat.le_refl _) _)) (by simp)).off (bs := []) (Off.of ((Below.refl _ _).alloc (Nat.le_refl _) _)) (by simp)
  have F4 : Below w1.heap.size w1 (((w1.alloc (.map #[] 0)).alloc (.cells #[.map (some w1.heap.size)] 113)).alloc (.cells #[.slice (some ⟨g, 0, none⟩) 2048 2048] 27)) := (((Below.refl _ _).alloc (Nat.le_refl _) _).alloc (by simp) _).alloc (by simp; omega) _
  have F5 : (((w1.alloc (.map #[] 0)).alloc (.cells #[.map (some w1.heap.size)] 113)).alloc (.cells #[.slice (some ⟨g, 0, none⟩) 2048 2048] 27)).heap.size = w1.heap.size + 3 := by simp
  generalize (((w1.alloc (.map #[] 0)).alloc (.cells #[.map (some w1.heap.size)] 113)).alloc (.cells #[.slice (some ⟨g, 0, none⟩) 2048 2048] 27)) = V0 at hw2 F1 F2 F3 F4 F5 ⊢
  clear hw2 hmm RC
  have gl := R1.2.2
  obtain ⟨mv, hmv⟩ : ∃ mv, w1.heap.size = mv := ⟨_, rfl⟩
  rw [hmv] at F1 F2 F3 F4 F5 gl ⊢
  have hM : ∀ k X, vI V0 mv G k X → CopMem (mv + 1 + 1) g G X := fun k X hX => ⟨(hX.1.cell (p := ⟨mv + 1 + 1, 0, none⟩) (by show mv + 1 + 1 < V0.heap.size; omega) (by simp; omega)).trans F2.1, F2.2.off hX.1 (by simp; omega)⟩
  refine range_copies (m := 5) 26 27 (by omega) (mv + 1 + 1) g G rfl (vI V0 mv G) (fun _ _ => False) (vI_own V0 mv G (by omega)) (fun _ _ _ _ h _ _ => h) hM ⟨Off.refl _ _, F3⟩ ?_ ?_ (fun _ _ _ _ h _ => h.elim)
  · intro l k X hk hI hl1 hl2 _
    unfold imgV
    simp only [List.setIfInBounds_toArray, List.set_cons_zero, List.set_cons_succ]
    gi_wp2_with (first
      | (refine wpListIn_alloc_row rfl 85 rfl .u8 512 zero_image ?_; intro X1 R1 B1 z1 k1)
      | (refine wpListIn_store_rec rfl 85 (.tmp 8) (.tmp 27) rfl X.heap.size 0 _ (cl .u8 512 (cp G k)) rfl rfl R1.rec (by rw [cl_len, cl_len]) (by rw [cl_len]; exact info_image) (cl_one _ _ _) ?_; intro X2 R2 B2 z2 k2))
    refine ⟨(k1.trans k2).from _, fun X3 hB3 hz3 => ?_⟩
    obtain ⟨v0, st, w1', w3, e1, e2, e3, e4, s0, s1, s3, kf, iN⟩ := vote_round V0 X X2 X3 mv k l G hk F1 (by omega) GB.out hI hl1 hl2 R2 (B1.trans (B2.below (Nat.le_refl _) (by omega))) hB3
    have PP : Hid (KeepsFrom V0.heap.size X3 w3 ∧ vI V0 mv G (k + 1) w3) := ⟨kf, iN⟩
    have hc0 := cnt_le G (cp G k) k
    generalize cnt G (cp G k) k = c0 at e1 e3 e4 hc0
    have cw : IntKind.i64.wrap ((c0 : Int) + 1) = (c0 : Int) + 1 := by rw [IntKind.wrap_i64]; omega
    clear kf iN R1 B1 z1 k1 R2 B2 z2 k2 hB3 hz3 hI
    gi_wp2
    refine region_in (S := cntS mv X.heap.size (cp G k)) (by kernel_rfl) (by kernel_rfl) s0 (fun hHeld => ?_)
    refine take_at (i := 0) (v := ?_) (some 28) rfl rfl (by kernel_rfl) (by kernel_rfl) (by kernel_rfl) (fun _ _ _ h => by cases h.1) (Or.inl ⟨by rfl, ?_⟩) (by assumption) ?_
    rotate_left
    · (intro w hSw; obtain ⟨q1, q2⟩ := hSw; clear q2; go_simp; try with_reducible rfl)
    simp only [Act.put, List.setIfInBounds_toArray, List.set_cons_zero, List.set_cons_succ]
    refine take_at (i := 1) (v := _) (some 29) rfl rfl (by kernel_rfl) (by kernel_rfl) (by kernel_rfl) (fun _ _ _ h => by cases h.1) (yieldsIf_load_mid (by rfl) 85 (.tmp 8) rfl X.heap.size 0 rfl (cl .u8 512 (cp G k)) _ (fun _ h => h.2) Try.underlying85 rfl (by rw [cl_len]; kernel_rfl)) (by assumption) ?_
    simp only [Act.put, List.setIfInBounds_toArray, List.set_cons_zero, List.set_cons_succ]
    refine fork_at (i := 2) (j := 4) (by kernel_rfl) ?_ ?_
    · refine wpOp_value (i := 2) (some 30) rfl rfl (by rfl) (.int .i64 (c0 : Int)) X3.drew (lookup_run 113 (.tmp 28) (.tmp 29) rfl _ _ rfl rfl e1) ⟨s0, ?_⟩
      simp only [Act.put, List.setIfInBounds_toArray, List.set_cons_zero, List.set_cons_succ]
      refine take_at (i := 3) (v := ?_) (some 31) rfl rfl (by kernel_rfl) (by kernel_rfl) (by kernel_rfl) (fun _ _ _ h => by cases h.1) (Or.inl ⟨by rfl, ?_⟩) (by assumption) ?_
      rotate_left
      · (intro w hSw; obtain ⟨q1, q2⟩ := hSw; clear q2; go_simp; try with_reducible rfl)
      simp only [Act.put, List.setIfInBounds_toArray, List.set_cons_zero, List.set_cons_succ]
      refine step_at (i := 4) (some 32) rfl rfl (by rfl) (by kernel_rfl) (.tuple #[v0, goInt st]) w1' (entry_run 113 (.tmp 28) (.tmp 29) rfl _ _ rfl rfl e2) s1 (fun hHeld => ?_)
      simp only [Act.put, List.setIfInBounds_toArray, List.set_cons_zero, List.set_cons_succ]
      refine take_at (i := 5) (v := ?_) (some 33) rfl rfl (by kernel_rfl) (by kernel_rfl) (by kernel_rfl) (fun _ _ _ h => by cases h.1) (Or.inl ⟨by rfl, ?_⟩) (by assumption) ?_
      rotate_left
      · (intro w hSw; obtain ⟨q1, q2⟩ := hSw; clear q2; go_simp; try with_reducible rfl)
      simp only [Act.put, List.setIfInBounds_toArray, List.set_cons_zero, List.set_cons_succ]
      refine skip_at (i := 6) none rfl rfl (by rfl) (by kernel_rfl) w3 (estore_run 113 (.tmp 28) (.tmp 33) (.tmp 31) rfl _ _ _ rfl rfl rfl e4) s3 (fun hHeld => ?_)
      simp only [Act.put]
      refine wpAnyH_done (by kernel_rfl) ?_ _
      refine ⟨rfl, ?_⟩
      gi_wp2
      exact ⟨PP.out.1, PP.out.2⟩
    · refine wpOp_value (i := 4) (some 32) rfl rfl (by rfl) (.tuple #[v0, goInt st]) w1' (entry_run 113 (.tmp 28) (.tmp 29) rfl _ _ rfl rfl e2) ⟨s1, ?_⟩
      simp only [Act.put, List.setIfInBounds_toArray, List.set_cons_zero, List.set_cons_succ]
      have s1h := s1
      refine take_at (i := 5) (v := ?_) (some 33) rfl rfl (by kernel_rfl) (by kernel_rfl) (by kernel_rfl) (fun _ _ _ h => by cases h.1) (Or.inl ⟨by rfl, ?_⟩) (by assumption) ?_
      rotate_left
      · (intro w hSw; obtain ⟨q1, q2⟩ := hSw; clear q2; go_simp; try with_reducible rfl)
      simp only [Act.put, List.setIfInBounds_toArray, List.set_cons_zero, List.set_cons_succ]
      refine step_at (i := 2) (some 30) rfl rfl (by rfl) (by kernel_rfl) (.int .i64 (c0 : Int)) w1' (lookup_run 113 (.tmp 28) (.tmp 29) rfl _ _ rfl rfl e3) s1 (fun hHeld => ?_)
      simp only [Act.put, List.setIfInBounds_toArray, List.set_cons_zero, List.set_cons_succ]
      refine take_at (i := 3) (v := ?_) (some 31) rfl rfl (by kernel_rfl) (by kernel_rfl) (by kernel_rfl) (fun _ _ _ h => by cases h.1) (Or.inl ⟨by rfl, ?_⟩) (by assumption) ?_
      rotate_left
      · (intro w hSw; obtain ⟨q1, q2⟩ := hSw; clear q2; go_simp; try with_reducible rfl)
      simp only [Act.put, List.setIfInBounds_toArray, List.set_cons_zero, List.set_cons_succ]
      refine skip_at (i := 6) none rfl rfl (by rfl) (by kernel_rfl) w3 (estore_run 113 (.tmp 28) (.tmp 33) (.tmp 31) rfl _ _ _ rfl rfl rfl e4) s3 (fun hHeld => ?_)
      simp only [Act.put]
      refine wpAnyH_done (by kernel_rfl) ?_ _
      refine ⟨rfl, ?_⟩
      gi_wp2
      exact ⟨PP.out.1, PP.out.2⟩
  · intro D1 X1 hD1 hI1 hd1
    gi_wp2_with (first
      | (refine wpListIn_run rfl (by intro c hc; cases hc) (by rfl) _ (build_run1 87 _ rfl (fndC (.slice (some ⟨g, 0, none⟩) 2048 2048) (fun _ => 0) sup0 none 0).toArray (by kernel_rfl)) ?_)
      | (refine wpListIn_alloc_rec rfl 87 rfl fnd0 zero_found ?_; intro X2 R2 B2 z2 _)
      | (refine wpListIn_store_rec rfl 87 (.tmp 9) (.tmp 35) rfl X1.heap.size 0 _ (fndC (.slice (some ⟨g, 0, none⟩) 2048 2048) (fun _ => 0) sup0 none 0) rfl rfl R2 (by rw [fndC_len]; exact fndC_len _ _ _ _ _) (by rw [fndC_len]; exact info_found) (fndC_one _ _ _ _ _ rfl) ?_; intro X3 R3 B3 z3 _))
    refine ⟨trivial, ?_⟩
    refine CallsIn.mono (copies_in _ _ trivial rfl _ _ _ _) ?_
    rintro e w4 ⟨rfl, hw4⟩
    gi_wp2
    have E0 : Below X1.heap.size X1 (X3.alloc (.cells #[.slice (some ⟨g, 0, none⟩) 2048 2048] 27)) := (B2.trans (B3.below (Nat.le_refl _) (by omega))).alloc (by omega) _
    have A3a : (X3.alloc (.cells #[.slice (some ⟨g, 0, none⟩) 2048 2048] 27)).cell? ⟨X1.heap.size + 1, 0, none⟩ = some (.slice (some ⟨g, 0, none⟩) 2048 2048) := by
      have e : X1.heap.size + 1 = X3.heap.size := by omega
      rw [e]
      simp [go_sem]
    have A4 : Rec19 (X3.alloc (.cells #[.slice (some ⟨g, 0, none⟩) 2048 2048] 27)) X1.heap.size 0 (fndC (.slice (some ⟨g, 0, none⟩) 2048 2048) (fun _ => 0) sup0 none 0) := R3.below ((Below.refl _ _).alloc (Nat.le_refl _) _)
    have A5 : (X3.alloc (.cells #[.slice (some ⟨g, 0, none⟩) 2048 2048] 27)).heap.size = X1.heap.size + 2 := by simp; omega
    generalize X3.alloc (.cells #[.slice (some ⟨g, 0, none⟩) 2048 2048] 27) = V2 at hw4 E0 A3a A4 A5 ⊢
    have D1l : D1 < X1.heap.size := (Array.getElem?_eq_some_iff.1 hd1).1
    have A8 : V2.heap[D1]? = some (.deferred (some [])) := (E0.block D1 D1l).trans hd1
    have A1 : V2.cell? ⟨mv + 1, 0, none⟩ = some (.map (some mv)) := (E0.cell (p := ⟨mv + 1, 0, none⟩) (by have := hI1.1.size; show mv + 1 < X1.heap.size; omega)).trans ((hI1.1.cell (p := ⟨mv + 1, 0, none⟩) (by show mv + 1 < V0.heap.size; omega) (by simp)).trans F1)
    have A2 : VotesOk V2 mv G 4 := hI1.2.off (bs := []) (Off.of E0) (by simp)
    have A3 : CopMem (X1.heap.size + 1) g G V2 := ⟨A3a, (hM 4 X1 hI1).2.below E0⟩
    have E1 : Below W.heap.size W V0 := (B0.trans (B1.mono (by omega))).trans (F4.mono (by have := B1.size; omega))
    have E2 : Below W.heap.size W V2 := (E1.trans (hI1.1.below (by simp; have := B1.size; omega) E1.size)).trans (E0.mono (by have := hI1.1.size; have := E1.size; omega))
    have A6 : Rec19 V2 W.heap.size 0 fnd0 := ((((R0.below B1).under (F4.mono (Nat.le_refl _)) (by have := B1.size; omega)).off hI1.1 (by have := B1.size; simp; omega)).below E0)
    have fl : mv + 1 < X1.heap.size := by have := hI1.1.size; omega
    have gl2 : W.heap.size < g := by omega
    have glV : g < V0.heap.size := by omega
    have wlV : W.heap.size < V0.heap.size := by have := B1.size; omega
    clear hw4 A3a R2 B2 z2 R3 B3 z3 E0 hd1 hI1 E1 F1 F2 F3 F4 F5 hM R1 B1 R0 B0 z0 hg hmv
    obtain ⟨f9, hf9⟩ : ∃ n, X1.heap.size = n := ⟨_, rfl⟩
    rw [hf9] at A3 A4 A5 fl D1l ⊢
    clear hf9
    have hM2 : ∀ k X, pI V2 f9 (.slice (some ⟨g, 0, none⟩) 2048 2048) G k X → CopMem (f9 + 1) g G X := fun k X hX => ⟨(hX.1.cell (p := ⟨f9 + 1, 0, none⟩) (by show f9 + 1 < V2.heap.size; omega) (by simp)).trans A3.1, A3.2.off hX.1 (by simp; omega)⟩
    refine range_copies (m := 5) 38 39 (by omega) (f9 + 1) g G rfl (pI V2 f9 (.slice (some ⟨g, 0, none⟩) 2048 2048) G) (fun _ _ => False) (pI_own V2 f9 _ G (by omega)) (fun _ _ _ _ h _ _ => h) hM2 ⟨Off.refl _ _, none, 0, A4, .inl rfl, Nat.le_refl _, fun r e => (by cases e)⟩ ?_ ?_ (fun _ _ _ _ h _ => h.elim)
    · intro l k X hk hI hl1 hl2 hlo
      unfold imgV
      simp only [List.setIfInBounds_toArray, List.set_cons_zero, List.set_cons_succ]
      gi_wp2_with (first
        | (refine wpListIn_alloc_row rfl 85 rfl .u8 512 zero_image ?_; intro Y1 S1 C1 y1 k1)
        | (refine wpListIn_store_rec rfl 85 (.tmp 11) (.tmp 39) rfl X.heap.size 0 _ (cl .u8 512 (cp G k)) rfl rfl S1.rec (by rw [cl_len, cl_len]) (by rw [cl_len]; exact info_image) (cl_one _ _ _) ?_; intro Y2 S2 C2 y2 k2))
      refine ⟨(k1.trans k2).from _, fun Y3 hB3 hz3 => ?_⟩
      have PS : Hid (PickS V2 Y3 f9 mv X.heap.size k (.slice (some ⟨g, 0, none⟩) 2048 2048) G) := pick_round V2 X Y2 Y3 f9 mv k l _ G hk (by omega) (by omega) A1 A2 GB.out hI hl1 hl2 hlo S2 (C1.trans (C2.below (Nat.le_refl _) (by omega))) hB3
      have hmc := PS.out.map
      have hlk := PS.out.look
      obtain ⟨vt, hvt⟩ : ∃ n, votes G k = n := ⟨_, rfl⟩
      have VT : Hid (votes G k = vt) := hvt
      rw [hvt] at hlk
      clear S1 C1 y1 k1 S2 C2 y2 k2 hB3 hz3 hI hlo hvt
      by_cases few : vt < 2
      · have f1 : (vt : Int) < 2 := by omega
        have PP : Hid (KeepsFrom V2.heap.size Y3 Y3 ∧ pI V2 f9 (.slice (some ⟨g, 0, none⟩) 2048 2048) G (k + 1) Y3) := PS.out.stay (Below.refl _ _) (fun q => by have := q.1; rw [VT.out] at this; omega)
        gi_wp2_with (first
          | (refine wpListIn_load_at rfl 85 (.tmp 11) rfl X.heap.size 0 (cl .u8 512 (cp G k)) rfl _ PS.out.rng Try.underlying85 rfl (by rw [cl_len]; exact info_image) ?_)
          | (refine wpListIn_run rfl (by intro c hc; cases hc) (by rfl) _ (lookup_run 113 (.tmp 40) (.tmp 41) rfl _ _ rfl rfl hlk) ?_))
        exact PP.out
      · have f1 : ¬ (vt : Int) < 2 := by omega
        have TW : Hid (2 ≤ votes G k) := by show 2 ≤ votes G k; rw [VT.out]; omega
        by_cases wh : Whole (cp G k)
        · have RD : Hid (Calls Try.prog 12 #[.slice (some ⟨X.heap.size, 0, none⟩) 512 512] Y3 (RdOk Y3 (cp G k))) := read_ok512 X.heap.size 0 512 (cp G k) Y3 PS.out.lies (Nat.le_refl _) wh
          have WH : Hid (Whole (cp G k)) := wh
          clear wh
          gi_wp2_with (first
            | (refine wpListIn_load_at rfl 85 (.tmp 11) rfl X.heap.size 0 (cl .u8 512 (cp G k)) rfl _ PS.out.rng Try.underlying85 rfl (by rw [cl_len]; exact info_image) ?_)
            | (refine wpListIn_run rfl (by intro c hc; cases hc) (by rfl) _ (lookup_run 113 (.tmp 40) (.tmp 41) rfl _ _ rfl rfl hlk) ?_))
          refine ⟨trivial, ?_⟩
          refine (CallsIn.inRound l ((callsIn_wide (n := _)).2 RD.out)).mono ?_
          rintro e Y4 ⟨a', C', rfl, hA', hC', hr', B4⟩
          unfold supV
          have SX : Hid ((supOf (behO (cp G k))).x 0 = seqO G k) := rfl
          obtain ⟨sq, hsq⟩ : ∃ n, seqO G k = n := ⟨_, rfl⟩
          obtain ⟨sb, hsb⟩ : ∃ n, seqB G (best G k) = n := ⟨_, rfl⟩
          have SQ : Hid (seqO G k = sq) := hsq
          have SB : Hid (seqB G (best G k) = sb) := hsb
          clear hsq hsb
          have HA' : Hid (HArg Y4 a' (supOf (behO (cp G k))).k (supOf (behO (cp G k))).h) := hA'
          have HR' : Hid ((supOf (behO (cp G k))).k ≤ C' ∧ ∀ r, a' = some r → Y3.heap.size ≤ r.block) := ⟨hC', hr'⟩
          clear hA' hC' hr'
          by_cases gt : sb < sq
          · have GT : Hid (2 ≤ votes G k ∧ Whole (cp G k) ∧ seqB G (best G k) < seqO G k) := ⟨TW.out, WH.out, by rw [SQ.out, SB.out]; exact gt⟩
            gi_wp2_with (first
              | (refine wpListIn_alloc_rec rfl 26 rfl (supC sup0 none 0) zero_super ?_; intro Y5 R5 B5 z5 _)
              | (refine wpListIn_store_rec rfl 26 (.tmp 12) (.tmp 47) rfl Y4.heap.size 0 _ (supC (supOf (behO (cp G k))) a' C') rfl rfl R5 rfl info_super (supC_one _ _ _) ?_; intro Y6 R6 B6 z6 _
                 obtain ⟨q0, _⟩ := R6.cel 0 _ rfl
                 rw [SX.out, SQ.out] at q0
                 have E6 : Below Y3.heap.size Y3 Y6 := B4.trans ((B5.mono B4.size).trans (B6.below B4.size (by have := B4.size; omega)))
                 have c513 := (PS.out.inv.2.off (bs := []) (Off.of E6) (by simp) (by simp)).seq
                 rw [SB.out] at c513
                 have H6 : Hid (HArg Y6 a' (supOf (behO (cp G k))).k (supOf (behO (cp G k))).h) := HA'.out.below (B5.trans (B6.below (Nat.le_refl _) (by omega)))
                 clear R5 B5 z5 B6 HA'))
            obtain ⟨ao, Co, rec0, _⟩ := PS.out.inv.2
            have rec6 := (rec0.below E6).below (Below.refl Y6.heap.size Y6).drew
            obtain ⟨p1, p2, p3, p4⟩ := pick_store (f' := cp G k) (s' := supOf (behO (cp G k))) (a' := a') (C' := C') rec6
            have nsb : Y4.heap.size ≠ f9 := by have := rec0.2.2; have := B4.size; omega
            have lc6 : X.heap.size < Y6.drew.heap.size := Nat.lt_of_lt_of_le PS.out.lc E6.size
            have sS : pickS X.heap.size Y4.heap.size (cp G k) (supOf (behO (cp G k))) a' C' Y6.drew := ⟨range_below PS.out.rng E6.drew PS.out.lc, R6.1⟩
            have sS1 : pickS X.heap.size Y4.heap.size (cp G k) (supOf (behO (cp G k))) a' C' (Y6.drew.setCells f9 1 (cl .u8 512 (cp G k))) := ⟨range_but sS.1 (But.cells _ _ _) lc6 PS.out.nc, range_but sS.2 (But.cells _ _ _) R6.2.2 nsb⟩
            have sS2 : pickS X.heap.size Y4.heap.size (cp G k) (supOf (behO (cp G k))) a' C' ((Y6.drew.setCells f9 1 (cl .u8 512 (cp G k))).setCells f9 513 (supC (supOf (behO (cp G k))) a' C')) := ⟨range_but sS1.1 (But.cells _ _ _) (by rw [size_cells]; exact lc6) PS.out.nc, range_but sS1.2 (But.cells _ _ _) (by rw [size_cells]; exact R6.2.2) nsb⟩
            have PP : Hid (KeepsFrom V2.heap.size Y3 ((Y6.drew.setCells f9 1 (cl .u8 512 (cp G k))).setCells f9 513 (supC (supOf (behO (cp G k))) a' C')) ∧ pI V2 f9 (.slice (some ⟨g, 0, none⟩) 2048 2048) G (k + 1) ((Y6.drew.setCells f9 1 (cl .u8 512 (cp G k))).setCells f9 513 (supC (supOf (behO (cp G k))) a' C'))) := PS.out.take E6.drew GT.out a' C' (H6.out.below (Below.refl _ _).drew) HR'.out.1 HR'.out.2 (by omega)
            clear rec6 p3 p4 E6 q0 c513 rec0
            refine region_in (S := pickS X.heap.size Y4.heap.size (cp G k) (supOf (behO (cp G k))) a' C') (by kernel_rfl) (by kernel_rfl) sS (fun hHeld => ?_)
            refine take_at (i := 0) (v := _) (some 59) rfl rfl (by kernel_rfl) (by kernel_rfl) (by kernel_rfl) (fun _ _ _ h => by cases h.1) (yieldsIf_load_mid (by rfl) 85 (.tmp 11) rfl X.heap.size 0 rfl (cl .u8 512 (cp G k)) _ (fun _ h => h.1) Try.underlying85 rfl (by rw [cl_len]; exact info_image)) (by assumption) ?_
            simp only [Act.put, List.setIfInBounds_toArray, List.set_cons_zero, List.set_cons_succ]
            refine take_at (i := 1) (v := _) (some 60) rfl rfl (by kernel_rfl) (by kernel_rfl) (by kernel_rfl) (fun _ _ _ h => by cases h.1) (yieldsIf_load_mid (by rfl) 26 (.tmp 12) rfl Y4.heap.size 0 rfl (supC (supOf (behO (cp G k))) a' C') _ (fun _ h => h.2) Try.underlying26 rfl info_super) (by assumption) ?_
            simp only [Act.put, List.setIfInBounds_toArray, List.set_cons_zero, List.set_cons_succ]
            refine take_at (i := 2) (v := ?_) (some 61) rfl rfl (by kernel_rfl) (by kernel_rfl) (by kernel_rfl) (fun _ _ _ h => by cases h.1) (Or.inl ⟨by rfl, ?_⟩) (by assumption) ?_
            rotate_left
            · (intro w hSw; clear hSw; go_simp; try with_reducible rfl)
            simp only [Act.put, List.setIfInBounds_toArray, List.set_cons_zero, List.set_cons_succ]
            refine skip_at (i := 3) none rfl rfl (by rfl) (by kernel_rfl) _ (store_run 85 (.tmp 61) (.tmp 59) rfl f9 1 _ (cl .u8 512 (cp G k)) rfl rfl p1 (by rw [cl_len, cl_len]) (by rw [cl_len]; exact info_image) (cl_one _ _ _)) sS1 (fun hHeld => ?_)
            simp only [Act.put]
            refine take_at (i := 4) (v := ?_) (some 62) rfl rfl (by kernel_rfl) (by kernel_rfl) (by kernel_rfl) (fun _ _ _ h => by cases h.1) (Or.inl ⟨by rfl, ?_⟩) (by assumption) ?_
            rotate_left
            · (intro w hSw; clear hSw; go_simp; try with_reducible rfl)
            simp only [Act.put, List.setIfInBounds_toArray, List.set_cons_zero, List.set_cons_succ]
            refine skip_at (i := 5) none rfl rfl (by rfl) (by kernel_rfl) _ (store_run 26 (.tmp 62) (.tmp 60) rfl f9 513 _ (supC (supOf (behO (cp G k))) a' C') rfl rfl p2 rfl info_super (supC_one _ _ _)) sS2 (fun hHeld => ?_)
            simp only [Act.put]
            refine wpAnyH_done (by kernel_rfl) ?_ _
            refine ⟨rfl, ?_⟩
            gi_wp2
            exact PP.out
          · have NG : Hid (∀ Y, Below Y3.heap.size Y3 Y → KeepsFrom V2.heap.size Y3 Y ∧ pI V2 f9 (.slice (some ⟨g, 0, none⟩) 2048 2048) G (k + 1) Y) := fun Y hY => PS.out.stay hY (fun q => gt (by have := q.2.2; rwa [SQ.out, SB.out] at this))
            gi_wp2_with (first
              | (refine wpListIn_alloc_rec rfl 26 rfl (supC sup0 none 0) zero_super ?_; intro Y5 R5 B5 z5 _)
              | (refine wpListIn_store_rec rfl 26 (.tmp 12) (.tmp 47) rfl Y4.heap.size 0 _ (supC (supOf (behO (cp G k))) a' C') rfl rfl R5 rfl info_super (supC_one _ _ _) ?_; intro Y6 R6 B6 z6 _
                 obtain ⟨q0, _⟩ := R6.cel 0 _ rfl
                 rw [SX.out, SQ.out] at q0
                 have E6 : Below Y3.heap.size Y3 Y6 := B4.trans ((B5.mono B4.size).trans (B6.below B4.size (by have := B4.size; omega)))
                 have c513 := (PS.out.inv.2.off (bs := []) (Off.of E6) (by simp) (by simp)).seq
                 rw [SB.out] at c513
                 clear R5 B5 z5 B6))
            exact NG.out _ E6
        · have RD : Hid (Calls Try.prog 12 #[.slice (some ⟨X.heap.size, 0, none⟩) 512 512] Y3 fun e w' => e = .returned (.tuple #[supV sup0 none 0, .int .i64 (rdE (cp G k))]) ∧ Below Y3.heap.size Y3 w') := read_no512 X.heap.size 0 512 (cp G k) Y3 PS.out.lies (Nat.le_refl _) wh
          have NE : Hid (rdE (cp G k) = 4 ∨ rdE (cp G k) = 12) := rdE_ne wh
          have PP : Hid (∀ Y, Below Y3.heap.size Y3 Y → KeepsFrom V2.heap.size Y3 Y ∧ pI V2 f9 (.slice (some ⟨g, 0, none⟩) 2048 2048) G (k + 1) Y) := fun Y hY => PS.out.stay hY (fun q => wh q.2.1)
          obtain ⟨ec, hec⟩ : ∃ c, rdE (cp G k) = c := ⟨_, rfl⟩
          rw [hec] at RD NE
          have e0 : (ec == 0) = false := by have := NE.out; simp; omega
          clear wh hec
          gi_wp2_with (first
            | (refine wpListIn_load_at rfl 85 (.tmp 11) rfl X.heap.size 0 (cl .u8 512 (cp G k)) rfl _ PS.out.rng Try.underlying85 rfl (by rw [cl_len]; exact info_image) ?_)
            | (refine wpListIn_run rfl (by intro c hc; cases hc) (by rfl) _ (lookup_run 113 (.tmp 40) (.tmp 41) rfl _ _ rfl rfl hlk) ?_))
          refine ⟨trivial, ?_⟩
          refine (CallsIn.inRound l ((callsIn_wide (n := _)).2 RD.out)).mono ?_
          rintro e Y4 ⟨rfl, B4⟩
          unfold supV
          gi_wp2_with (first
            | (refine wpListIn_alloc_rec rfl 26 rfl (supC sup0 none 0) zero_super ?_; intro Y5 R5 B5 z5 _)
            | (refine wpListIn_store_rec rfl 26 (.tmp 12) (.tmp 47) rfl Y4.heap.size 0 _ (supC sup0 none 0) rfl rfl R5 rfl info_super (supC_one _ _ _) ?_; intro Y6 R6 B6 z6 _))
          exact PP.out _ (B4.trans ((B5.mono B4.size).trans (B6.below B4.size (by have := B4.size; omega))))
    · intro D2 X4 hD2 hI2 hd2
      have D1k : X4.heap[D1]? = some (.deferred (some [])) := (hI2.1.block D1 (by omega) (by simp; omega)).trans A8
      have c513 := hI2.2.seq
      have R4 : Hid (Rec19 X4 W.heap.size 0 fnd0) := A6.off hI2.1 (by have := E2.size; simp; omega)
      have E4 : Hid (Below W.heap.size W X4) := E2.trans (hI2.1.below (by have := A6.2.2; simp; omega) E2.size)
      have FA : Hid (FndAt X4 f9 (.slice (some ⟨g, 0, none⟩) 2048 2048) G (best G 4) V2.heap.size) := hI2.2
      have L4 : Hid (Lies X4 g 0 2048 G) := (hM2 4 X4 hI2).2
      cases bq : best G 4 with
      | none =>
        rw [bq] at c513
        have c513' : X4.cell? ⟨f9, 513, none⟩ = some (.int .i64 0) := c513
        have BQ : Hid (best G 4 = none) := bq
        clear bq c513 hI2
        gi_wp2_with (first
          | (refine wpListIn_run rfl (by intro c hc; cases hc) (by rfl) _ (build_run1 87 _ rfl fnd0.toArray (by kernel_rfl)) ?_)
          | (refine wpListIn_store_rec rfl 87 (.tmp 2) (.tmp 67) rfl W.heap.size 0 _ fnd0 rfl rfl R4.out rfl (by rw [show fnd0.length = 524 from fndC_len _ _ _ _ _]; exact info_found) (fndC_one _ _ _ _ _ rfl) ?_; intro X9 R9 B9 z9 k9))
        have d2 : X9.heap[D2]? = some (.deferred (some [])) := k9.same _ _ hd2 rfl
        have d1 : (X9.putObj D2 (.deferred none)).heap[D1]? = some (.deferred (some [])) := (World.putObj_heap_other (by omega)).trans (k9.same _ _ D1k rfl)
        have R9' := (R9.but (But.putObj X9 D2 (.deferred none)) (by omega)).but (But.putObj _ D1 (.deferred none)) (by omega)
        have hl := R9'.run_load 87 _ Try.underlying87 rfl (by rw [show fnd0.length = 524 from fndC_len _ _ _ _ _]; exact info_found)
        refine And.intro (by simp) (Or.inl ⟨_, _, rfl, run_takeDeferred d2, And.intro (by simp) (Or.inl ⟨_, _, rfl, run_takeDeferred d1, ?_⟩)⟩)
        refine ⟨.tuple #[.agg fnd0.toArray, .int .i64 10], by simp [results, Try.results46, asAddr, hl], .inl ⟨BQ.out, rfl, ?_⟩⟩
        exact ((E4.out.trans (B9.below (Nat.le_refl _) E4.out.size)).trans ((But.putObj X9 D2 (.deferred none)).below (by omega) (by have := E4.out.size; omega))).trans ((But.putObj _ D1 (.deferred none)).below (by omega) (by have := E4.out.size; simp [World.putObj]; omega))
      | some q =>
        rw [bq] at c513 FA
        obtain ⟨_, _, qw⟩ := best_some 4 q bq
        have qs := (whole_seq qw).1
        have c513' : X4.cell? ⟨f9, 513, none⟩ = some (.int .i64 (seqO G q)) := c513
        have ne : (seqO G q == 0) = false := by simp; omega
        have BQ : Hid (best G 4 = some q) := bq
        obtain ⟨a, C, rcF, hA, hC, hr⟩ := FA.out
        have RCF : Hid (Rec19 X4 f9 0 (fndC (.slice (some ⟨g, 0, none⟩) 2048 2048) (cp G q) (supOf (behO (cp G q))) a C)) := rcF
        have HA : Hid (HArg X4 a (supOf (behO (cp G q))).k (supOf (behO (cp G q))).h ∧ (supOf (behO (cp G q))).k ≤ C ∧ ∀ r, a = some r → V2.heap.size ≤ r.block ∧ r.block ≠ f9) := ⟨hA, hC, hr⟩
        clear bq c513 hI2 rcF hA hC hr FA qs qw
        generalize seqO G q = sq at c513' ne
        gi_wp2_with (first
          | (refine wpListIn_load_at rfl 87 (.tmp 9) rfl f9 0 (fndC (.slice (some ⟨g, 0, none⟩) 2048 2048) (cp G q) (supOf (behO (cp G q))) a C) rfl _ RCF.out.1 Try.underlying87 rfl (by rw [fndC_len]; exact info_found) ?_)
          | (refine wpListIn_store_rec rfl 87 (.tmp 2) (.tmp 68) rfl W.heap.size 0 _ (fndC (.slice (some ⟨g, 0, none⟩) 2048 2048) (cp G q) (supOf (behO (cp G q))) a C) rfl rfl R4.out (by rw [fndC_len]; exact fndC_len _ _ _ _ _) (by rw [fndC_len]; exact info_found) (fndC_one _ _ _ _ _ rfl) ?_; intro X9 R9 B9 z9 k9))
        have d2 : X9.heap[D2]? = some (.deferred (some [])) := k9.same _ _ hd2 rfl
        have d1 : (X9.putObj D2 (.deferred none)).heap[D1]? = some (.deferred (some [])) := (World.putObj_heap_other (by omega)).trans (k9.same _ _ D1k rfl)
        have R9' := (R9.but (But.putObj X9 D2 (.deferred none)) (by omega)).but (But.putObj _ D1 (.deferred none)) (by omega)
        have hl := R9'.run_load 87 _ Try.underlying87 rfl (by rw [fndC_len]; exact info_found)
        refine And.intro (by simp) (Or.inl ⟨_, _, rfl, run_takeDeferred d2, And.intro (by simp) (Or.inl ⟨_, _, rfl, run_takeDeferred d1, ?_⟩)⟩)
        refine ⟨.tuple #[.agg (fndC (.slice (some ⟨g, 0, none⟩) 2048 2048) (cp G q) (supOf (behO (cp G q))) a C).toArray, .int .i64 0], by simp [results, Try.results46, asAddr, hl], .inr ⟨q, a, C, g, BQ.out, rfl, Nat.le_of_lt gl2, ?_, ?_, HA.out.2.1, ?_, ?_⟩⟩
        · exact ((L4.out.but B9 (by omega)).but (But.putObj X9 D2 (.deferred none)) (by omega)).but (But.putObj _ D1 (.deferred none)) (by omega)
        · exact ((HA.out.1.off (Off.but (bs := [W.heap.size]) B9 (by simp)) (fun r e => by have := (HA.out.2.2 r e).1; simp; omega)).put _ d2 rfl).put _ d1 rfl
        · intro r e
          have := (HA.out.2.2 r e).1
          omega
        · exact ((E4.out.trans (B9.below (Nat.le_refl _) E4.out.size)).trans ((But.putObj X9 D2 (.deferred none)).below (by omega) (by have := E4.out.size; omega))).trans ((But.putObj _ D1 (.deferred none)).below (by omega) (by have := E4.out.size; simp [World.putObj]; omega))
end Go.Proofs.Ytfapmogjmjlokaa
namespace Go.Proofs.Ytfapmogjmjlokaa
open Go.RowKit Go.Maps
/-- A superblock with another Sequence. -/
def Sup.setq (s : Sup) (v : Int) : Sup := { s with x := upd s.x 0 v }
theorem supC_setq (s : Sup) (v : Int) (a : Option Addr) (C : Nat) : (supC s a C).set 0 (.int .i64 v) = supC (s.setq v) a C := rfl
theorem St.but {w0 W W' : World} {d s m b : Nat} {D : Dsk} (h : St w0 W d s m D) (hB : But b W W') (h1 : d ≠ b) (h2 : s ≠ b) (h3 : m ≠ b) (hb : w0.heap.size ≤ b) : St w0 W' d s m D :=
  ⟨h.at'.off (bs := [b]) (Off.but hB (by simp)) (by simpa using h1) (by simpa using h2) (by simpa using h3), h.hd, h.hs, h.hm, h.bel.trans (hB.below hb h.bel.size)⟩
theorem st_rc {w0 u : World} {d s m : Nat} {D : Dsk} (h : St w0 u d s m D) (hf : D.free) (hn : 8 ≤ D.N) : Calls Try.prog 50 #[.pointer (some ⟨d, 0, none⟩)] u (RcPost u D.sec) := rc_ok u d s m D 0 false h.at' (hf.fuse u 0) hf.up hn
theorem KeptPost.from {w0 W u : World} {d s m : Nat} {D' : Dsk} {e : Ending} {w' : World} (h : KeptPost w0 u d s m D' e w') (hB : Below W.heap.size W u) : KeptPost w0 W d s m D' e w' := by
  obtain ⟨h1, m', h2, h3, h4⟩ := h
  exact ⟨h1, m', h2, h3.imp id (fun q => Nat.le_trans hB.size q), (Off.of hB).trans h4⟩
set_option maxRecDepth 100000 in
set_option maxHeartbeats 400000 in
theorem format_st (w0 W : World) (d s m : Nat) (D : Dsk) (sp : Sup) (a : Option Addr) (C : Nat) (h : St w0 W d s m D) (hf : D.few 100) (hn : 8 ≤ D.N) (hA : HArg W a sp.k sp.h) (hm : (sp.setq 1).May) :
    Calls Try.prog 23 #[.pointer (some ⟨d, 0, none⟩), supV sp a C] W (KeptPost w0 W d s m (D.kept 0 (rep (sp.setq 1).img) 8)) := by
  have SS : Hid (St w0 W d s m D) := h
  have RC : Hid (∀ u, St w0 u d s m D → Calls Try.prog 50 #[.pointer (some ⟨d, 0, none⟩)] u (RcPost u D.sec)) := fun u hu => st_rc hu (hf.free (by decide)) hn
  have BY : Hid (∀ u, Below W.heap.size W u → Calls Try.prog 10 #[.agg (supC (sp.setq 1) a C).toArray] u (ByPost u (sp.setq 1))) := fun u hB => bytes_ok (sp.setq 1) a C u (hA.below hB) hm
  have RP : Hid (∀ u b, Lies u b 0 512 (sp.setq 1).img → Calls Try.prog 48 #[.slice (some ⟨b, 0, none⟩) 512 512, .int .i64 4] u (RepPost u 2048 (sp.setq 1).img)) := fun u b hL => repeat_any b 0 512 4 2048 _ u hL (by omega) rfl (by omega) mul_4
  have KP : Hid (∀ u b, St w0 u d s m D → Lies u b 0 2048 (rep (sp.setq 1).img) → b ≠ s → b ≠ m → Calls Try.prog 49 #[.pointer (some ⟨d, 0, none⟩), .int .i64 0, .slice (some ⟨b, 0, none⟩) 2048 2048] u (KeptPost w0 u d s m (D.kept 0 (rep (sp.setq 1).img) 8))) := fun u b hu hL h1 h2 => keep_st w0 u d s m 0 b 0 8 2048 2048 D _ hu (hf.mono (by decide)) (by omega) rfl hL (by omega) (by omega) (by omega) (by omega) ⟨h1, h2⟩
  have dl := h.at'.dl
  have sl := h.at'.sl
  have ml := h.at'.ml
  have w0W := h.bel.size
  clear h hf hn hA hm
  unfold supV
  go_enter Try.func23, Try.ntmps23
  go_wp2_with (first
    | (refine wpList_box_rec rfl 26 (.tmp 1) rfl (supC sp a C) rfl W.heap.size rfl ?_; intro W0 R0 B0 z0)
    | (go_at_call 50; refine (RC.out _ (SS.out.below B0)).mono ?_; rintro e w1 ⟨g, rfl, _, _, B1⟩
       have R1 := R0.below B1
       have E1 : Below W.heap.size W w1 := B0.trans (B1.mono B0.size)
       obtain ⟨c0, f0⟩ := R1.cel 0 _ rfl
       have R2 : Rec19 (w1.setCell ⟨W.heap.size, 0, none⟩ (.int .i64 1)) W.heap.size 0 (supC (sp.setq 1) a C) := R1.put 0 (.int .i64 1)
       have E2 : Below W.heap.size W (w1.setCell ⟨W.heap.size, 0, none⟩ (.int .i64 1)) := E1.setCell (Nat.le_refl _) _
       clear R0 B0 z0 B1)
    | (refine wpList_load_rec rfl 26 (.tmp 3) rfl W.heap.size 0 (supC (sp.setq 1) a C) rfl _ Try.underlying26 rfl (by kernel_rfl) R2 ?_)
    | (go_at_call 10; refine (BY.out _ E2).mono ?_; rintro e w3 ⟨g3, rfl, hg3, L3, B3⟩
       have E3 : Below W.heap.size W w3 := E2.trans (B3.mono E2.size)
       have L3' := L3.lies (fun j hj => Sup.img_byte _ j hj)
       clear R2 L3 B3)
    | (go_at_call 48; refine (RP.out _ g3 L3').mono ?_; rintro e w4 ⟨g4, rfl, hg4, L4, B4⟩
       have E4 : Below W.heap.size W w4 := E3.trans (B4.mono E3.size)
       have S4 : St w0 w4 d s m D := SS.out.below E4
       have n1 : g4 ≠ s := by have := E3.size; omega
       have n2 : g4 ≠ m := by have := E3.size; omega)
    | (go_at_call 49; refine (KP.out _ g4 S4 L4 n1 n2).mono ?_; rintro e w5 h5; have P5 : Hid (KeptPost w0 W d s m (D.kept 0 (rep (sp.setq 1).img) 8) e w5) := h5.from E4; obtain ⟨rfl, _⟩ := h5))
  go_ret
  exact P5.out
end Go.Proofs.Ytfapmogjmjlokaa
namespace Go.Proofs.Ytfapmogjmjlokaa
open Go.RowKit Go.Maps Go.Shelf
theorem eqIn512 (f g : Nat → Int) (w : World) : (Op.equalIn 10000 85 (.agg (cl .u8 512 f).toArray) (.agg (cl .u8 512 g).toArray)).run Try.prog w = .ok (eqN 512 f g) w := by
  obtain ⟨i, hi, _⟩ : ∃ i, Try.prog.info? 5 = some i ∧ True := by
    have : (Try.prog.info? 5).isSome = true := by kernel_rfl
    obtain ⟨i, hi⟩ := Option.isSome_iff_exists.1 this
    exact ⟨i, hi, trivial⟩
  rw [run_equalIn_array w 9999 _ _ Try.underlying85 hi, cell8, items_eq f g 512 w (List.range 512) (fun i hi => List.mem_range.1 hi)]
  rfl
theorem eq512 (f g : Nat → Int) (w : World) : (binOp .eql 85 (.agg (cl .u8 512 f).toArray) (.agg (cl .u8 512 g).toArray)).run Try.prog w = .ok (.bool (eqN 512 f g)) w := by
  rw [run_eql_struct, eqIn512]
  rfl
theorem guard512 : Try.prog.eqGuardType Try.prog.depth 85 = false := by kernel_rfl
theorem eql_run512 {a : Act} {w : World} {o : Oper} (x y : Operand) (ho : o.op = .binOp .eql 85 x y 85) (f g : Nat → Int) (hx : a.eval x = .agg (cl .u8 512 f).toArray) (hy : a.eval y = .agg (cl .u8 512 g).toArray) : (execOp a.eval o).run Try.prog w = .ok (.value (.bool (eqN 512 f g))) w := by
  unfold execOp
  simp only [ho, hx, hy, Sem.run_bind, run_eqGuard_agg _ _ _ _ _ _ _ guard512, Result.andThen_ok, eq512]
  rfl
/-- A parameter of several cells is boxed, in a fence. -/
theorem wpListIn_box_rec {F : Fence} {n : Nat} {ops : Array Oper} {rest : List Oper} {o : Oper} {a : Act} {w : World} {Q : Exit → Act → World → Prop} (hg : o.guard = none) (ty : TypeId) (x : Operand) (ho : o.op = .box ty x) (cs : List Value) (hx : a.eval x = .agg cs.toArray)
    (hK : ∀ W, Rec19 W w.heap.size 0 cs → Below w.heap.size w W → W.heap.size = w.heap.size + 1 → wpListIn F n Try.prog ops Q rest (a.put o.dst (.pointer (some ⟨w.heap.size, 0, none⟩))) W) : wpListIn F n Try.prog ops Q (o :: rest) a w := by
  refine wpListIn_run hg (by rw [ho]; intro c hc; cases hc) (by simp [Oper.about, ho]) (.pointer (some ⟨w.heap.size, 0, none⟩)) (w' := w.alloc (.cells cs.toArray ty)) ?_ (hK _ (Rec19.new w ty cs) ((Below.refl _ _).alloc (Nat.le_refl _) _) (by simp))
  unfold execOp
  simp only [ho, hx]
  simp [Instr.box, newVar, newRow, Value.cells, Result.andThen]
/-- Nothing but new blocks. -/
def sameI (V0 : World) (_ : Nat) (X : World) : Prop := Off [] V0 X
theorem sameI_own (V0 : World) : OwnFrom V0.heap.size (sameI V0) := by
  rintro k X Y row h hg hr
  obtain ⟨O, hb⟩ := row_off hg hr
  exact Off.far h O (fun b q => .inr (hb b q))
attribute [local go_sem] Oper.semAt_some
set_option maxRecDepth 100000 in
set_option maxHeartbeats 1000000 in
theorem mend_same (W : World) (g : Nat) (G f : Nat → Int) (s : Sup) (a : Option Addr) (C : Nat) (p : Option Addr) (hL : Lies W g 0 2048 G) (hs : ∀ i, i < 4 → Has G i f) :
    Calls Try.prog 47 #[.agg (fndC (.slice (some ⟨g, 0, none⟩) 2048 2048) f s a C).toArray, .pointer p] W fun e w' => e = .returned (.int .i64 0) ∧ Below W.heap.size W w' := by
  have LL : Hid (Lies W g 0 2048 G) := hL
  have HS : Hid (∀ i, i < 4 → Has G i f) := hs
  have gl := hL.2.2
  clear hL hs
  refine (callsIn_wide (n := 5)).1 ?_
  refine callsIn_of_wp_marks Try.func47 rfl trivial ?_ rfl
  simp only [Try.ntmps47, List.size_toArray, List.length_cons, List.length_nil, Nat.reduceAdd, Nat.reduceSub, Array.replicate_succ, Array.replicate_zero, List.push_toArray, List.append_toArray, List.nil_append, List.cons_append]
  gi_wp2_with (refine wpListIn_box_rec rfl 87 (.tmp 0) rfl (fndC (.slice (some ⟨g, 0, none⟩) 2048 2048) f s a C) rfl ?_; intro W0 R0 B0 z0; have c0 := (R0.cel 0 (.slice (some ⟨g, 0, none⟩) 2048 2048) rfl).1)
  refine ⟨trivial, ?_⟩
  refine CallsIn.mono (copies_in _ _ trivial rfl _ _ _ _) ?_
  rintro e w2 ⟨rfl, hw2⟩
  gi_wp2
  have zz : W0.heap.size = W.heap.size + 1 := z0
  have F0 : Below W0.heap.size W0 ((((W0.alloc (.cells #[.pointer p] 42)).alloc (.cells #[.int .i64 0] 30)).alloc (.cells #[.bool false] 4)).alloc (.cells #[.slice (some ⟨g, 0, none⟩) 2048 2048] 27)) := ((((Below.refl _ _).alloc (Nat.le_refl _) _).alloc (by simp) _).alloc (by simp; omega) _).alloc (by simp; omega) _
  have F1 : ((((W0.alloc (.cells #[.pointer p] 42)).alloc (.cells #[.int .i64 0] 30)).alloc (.cells #[.bool false] 4)).alloc (.cells #[.slice (some ⟨g, 0, none⟩) 2048 2048] 27)).cell? ⟨W.heap.size + 1 + 1, 0, none⟩ = some (.int .i64 0) ∧ ((((W0.alloc (.cells #[.pointer p] 42)).alloc (.cells #[.int .i64 0] 30)).alloc (.cells #[.bool false] 4)).alloc (.cells #[.slice (some ⟨g, 0, none⟩) 2048 2048] 27)).frozen? ⟨W.heap.size + 1 + 1, 0, none⟩ = false := by rw [← zz]; simp [go_sem]
  have F2 : ((((W0.alloc (.cells #[.pointer p] 42)).alloc (.cells #[.int .i64 0] 30)).alloc (.cells #[.bool false] 4)).alloc (.cells #[.slice (some ⟨g, 0, none⟩) 2048 2048] 27)).cell? ⟨W.heap.size + 1 + 1 + 1, 0, none⟩ = some (.bool false) := by rw [← zz]; simp [go_sem]
  have F3 : ((((W0.alloc (.cells #[.pointer p] 42)).alloc (.cells #[.int .i64 0] 30)).alloc (.cells #[.bool false] 4)).alloc (.cells #[.slice (some ⟨g, 0, none⟩) 2048 2048] 27)).cell? ⟨W.heap.size + 1 + 1 + 1 + 1, 0, none⟩ = some (.slice (some ⟨g, 0, none⟩) 2048 2048) := by rw [← zz]; simp [go_sem]
  have F5 : ((((W0.alloc (.cells #[.pointer p] 42)).alloc (.cells #[.int .i64 0] 30)).alloc (.cells #[.bool false] 4)).alloc (.cells #[.slice (some ⟨g, 0, none⟩) 2048 2048] 27)).heap.size = W.heap.size + 5 := by simp; omega
  generalize ((((W0.alloc (.cells #[.pointer p] 42)).alloc (.cells #[.int .i64 0] 30)).alloc (.cells #[.bool false] 4)).alloc (.cells #[.slice (some ⟨g, 0, none⟩) 2048 2048] 27)) = V0 at hw2 F0 F1 F2 F3 F5 ⊢
  have R1 := R0.below F0
  have E0 : Below W.heap.size W V0 := B0.trans (F0.mono (by omega))
  have L0 := LL.out.below E0
  clear hw2 F0 R0 B0 z0 c0 zz LL
  have hM : ∀ k X, sameI V0 k X → CopMem (W.heap.size + 1 + 1 + 1 + 1) g G X := fun k X hX => ⟨(hX.cell (p := ⟨W.heap.size + 1 + 1 + 1 + 1, 0, none⟩) (by show W.heap.size + 1 + 1 + 1 + 1 < V0.heap.size; omega) (by simp)).trans F3, L0.off hX (by simp)⟩
  refine range_copies (m := 5) 12 13 (by omega) (W.heap.size + 1 + 1 + 1 + 1) g G rfl (sameI V0) (fun _ _ => False) (sameI_own V0) (fun _ _ _ _ h _ _ => h) hM (Off.refl _ _) ?_ ?_ (fun _ _ _ _ h _ => h.elim)
  · intro l k X hk hI hl1 hl2 hlo
    unfold imgV
    simp only [List.setIfInBounds_toArray, List.set_cons_zero, List.set_cons_succ]
    gi_wp2_with (first
      | (refine wpListIn_alloc_row rfl 85 rfl .u8 512 zero_image ?_; intro Y1 S1 C1 y1 k1)
      | (refine wpListIn_store_rec rfl 85 (.tmp 7) (.tmp 13) rfl X.heap.size 0 _ (cl .u8 512 (cp G k)) rfl rfl S1.rec (by rw [cl_len, cl_len]) (by rw [cl_len]; exact info_image) (cl_one _ _ _) ?_; intro Y2 S2 C2 y2 k2))
    refine ⟨(k1.trans k2).from _, fun Y3 hB3 hz3 => ?_⟩
    have r1 : Y3.rangeAt X.heap.size 0 (cl .u8 512 (cp G k)) := (S2.but hB3 (by omega)).1
    have o3 : Off [] V0 Y3 := (Off.trans hI (Off.of (C1.trans (C2.below (Nat.le_refl _) (by omega))))).far (Off.but (bs := [l]) hB3 (by simp)) (fun b q => by simp at q; exact .inr (by omega))
    have r2 : Y3.rangeAt W.heap.size 1 (cl .u8 512 f) := (R1.off o3 (by simp)).sub.1
    have eq : eqN 512 (cp G k) f = true := eqN_has.2 (HS.out k hk)
    have PP : Hid (KeepsFrom V0.heap.size Y3 Y3 ∧ sameI V0 (k + 1) Y3) := ⟨KeepsFrom.refl _ _, o3⟩
    clear S1 C1 y1 k1 S2 C2 y2 k2 hB3 hz3 hI hlo o3
    have K1 : Hid True := trivial
    have K2 : Hid True := trivial
    gi_wp2_with (first
      | (have _q := K1; clear K1; refine wpListIn_load_at rfl 85 (.tmp 7) rfl X.heap.size 0 (cl .u8 512 (cp G k)) rfl _ r1 Try.underlying85 rfl (by rw [cl_len]; exact info_image) ?_)
      | (have _q := K2; clear K2; refine wpListIn_load_at rfl 85 (.tmp 15) rfl W.heap.size 1 (cl .u8 512 f) rfl _ r2 Try.underlying85 rfl (by rw [cl_len]; exact info_image) ?_)
      | (refine wpListIn_run rfl (by intro c hc; cases hc) (by rfl) _ (eql_run512 (.tmp 14) (.tmp 16) rfl (cp G k) f rfl rfl) ?_; rw [eq]))
    exact PP.out
  · intro D1 X1 hD1 hI1 hd1
    have c1 := (hI1.cell (p := ⟨W.heap.size + 1 + 1, 0, none⟩) (by show W.heap.size + 1 + 1 < V0.heap.size; omega) (by simp)).trans F1.1
    have f1 := (hI1.frozen (p := ⟨W.heap.size + 1 + 1, 0, none⟩) (by show W.heap.size + 1 + 1 < V0.heap.size; omega) (by simp)).trans F1.2
    have c2 := (hI1.cell (p := ⟨W.heap.size + 1 + 1 + 1, 0, none⟩) (by show W.heap.size + 1 + 1 + 1 < V0.heap.size; omega) (by simp)).trans F2
    have E1 : Hid (Below W.heap.size W X1) := E0.trans (hI1.below (by simp) E0.size)
    have sz := hI1.size
    clear hI1
    gi_wp2
    have d1 : (X1.setCell ⟨W.heap.size + 1 + 1, 0, none⟩ (.int .i64 0)).heap[D1]? = some (.deferred (some [])) := (Below.heap_setCell X1 ⟨W.heap.size + 1 + 1, 0, none⟩ (.int .i64 0) D1 (by show D1 ≠ W.heap.size + 1 + 1; omega)).trans hd1
    have c9 : ((X1.setCell ⟨W.heap.size + 1 + 1, 0, none⟩ (.int .i64 0)).putObj D1 (.deferred none)).cell? ⟨W.heap.size + 1 + 1, 0, none⟩ = some (.int .i64 0) := by
      rw [(But.putObj (X1.setCell ⟨W.heap.size + 1 + 1, 0, none⟩ (.int .i64 0)) D1 (.deferred none)).cell (p := ⟨W.heap.size + 1 + 1, 0, none⟩) (by simp [World.setCell]; omega) (by show W.heap.size + 1 + 1 ≠ D1; omega), World.cell?_setCell_same' _ _ _ (by rw [c1]; rfl)]
    refine And.intro (by simp) (Or.inl ⟨_, _, rfl, run_takeDeferred d1, ?_⟩)
    refine ⟨.int .i64 0, by simp [results, Try.results47, asAddr, go_sem, c9], rfl, ?_⟩
    exact (E1.out.setCell (p := ⟨W.heap.size + 1 + 1, 0, none⟩) (by show W.heap.size ≤ W.heap.size + 1 + 1; omega) _).trans ((But.putObj _ D1 (.deferred none)).below (by omega) (by simp [World.setCell]; omega))
end Go.Proofs.Ytfapmogjmjlokaa
namespace Go.Proofs.Ytfapmogjmjlokaa
open Go.RowKit Go.Maps
theorem size_head : ∃ i, Try.prog.info? 75 = some i := by
  obtain ⟨i0, hi, _⟩ := info_parts info_head
  exact ⟨i0, hi⟩
set_option maxRecDepth 100000 in
/-- Heads behind an empty list of ones own. -/
theorem heads_app {W : World} {base : Nat} {v : Value} {a : Option Addr} {k C : Nat} {h : Nat → Int} (ho : OwnI W base 75 2 v 0 h) (hA : HArg W a k h) (hk : k * 16 ≤ 140737488355328) (hb : base ≤ W.heap.size) :
    ∃ a' C' W', (Builtin.append_ #[24, 24] 24 #[v, .slice a k C]).run Try.prog W = .ok (.slice a' k C') W' ∧ HArg W' a' k h ∧ k ≤ C' ∧ Below base W W' ∧ (0 < k → ∃ r, a' = some ⟨r, 0, none⟩ ∧ base ≤ r) ∧ W.heap.size ≤ W'.heap.size := by
  obtain ⟨i0, hi, hz0, hz1, hz2⟩ := info_parts info_head
  by_cases k0 : k = 0
  · subst k0
    obtain ⟨a0, c0, rfl, hc0⟩ := ho.slice
    have run0 : (Builtin.append_ #[24, 24] 24 #[.slice a0 0 c0, .slice none 0 C]).run Try.prog W = .ok (.slice a0 0 c0) W := by
      rcases ho.2 with ⟨e, _⟩ | ⟨g, cap, cur, e, _, _, hnc, _⟩
      · injection e with e1 _ e3
        subst e1 e3
        simp [Builtin.append_, run_underlying Try.underlying24, sizeOf, typeInfo, hi, Builtin.lenOf, Builtin.firstCells]
      · injection e with e1 _ e3
        subst e1 e3
        simp [Builtin.append_, run_underlying Try.underlying24, sizeOf, typeInfo, hi, Builtin.lenOf, Builtin.firstCells, hnc, storeCells]
    cases a with
    | none => exact ⟨a0, c0, W, run0, .inl rfl, by omega, Below.refl _ _, fun q => absurd q (by omega), Nat.le_refl _⟩
    | some p =>
      obtain ⟨v', W', h1, h2, h3, _⟩ := run_append_own (P := Try.prog) W base 24 24 75 i0 _ 2 16 Try.underlying24 hi hz0 hz1 hz2 rfl (by omega) _ 0 _ ho p 0 C [] (by simp) (fun j u hj => by simp at hj) (fun u hu => by cases hu) (by unfold maxLen; omega) (by omega) hb
      have h2' : OwnI W' base 75 2 v' 0 h := by
        unfold OwnI
        rw [List.append_nil] at h2
        exact h2
      obtain ⟨a', C', rfl, hc⟩ := h2'.slice
      have bel : Below base W W' := (Below.refl _ _).grown h3 hb (fun k hk => (World.ownsRow.lt ho k hk).1)
      exact ⟨a', C', W', h1, .inl rfl, hc, bel, fun q => absurd q (by omega), bel.size⟩
  · rcases hA with e | ⟨b, off, rfl, hc, hx⟩
    · exact absurd e k0
    obtain ⟨v', W', h1, h2, h3⟩ := OwnI.appw (ty := 24) (C := C) (m := k) Try.underlying24 info_head rfl (by omega) ho b off (G := h) (fun j hj => hc j (by omega)) (by omega) (by omega) hb
    rw [Nat.zero_add] at h2
    obtain ⟨g, cap, rfl, hg, hcap, hcell, hgl⟩ := h2.form (by omega)
    refine ⟨some ⟨g, 0, none⟩, cap, W', h1, .inr ⟨g, 0, rfl, fun j hj => ?_, hgl⟩, hcap, h3, fun _ => ⟨g, rfl, hg⟩, h3.size⟩
    rw [Nat.zero_add, hcell j (by omega)]
    unfold cat
    rw [if_neg (by omega), Nat.zero_mul, Nat.sub_zero]
end Go.Proofs.Ytfapmogjmjlokaa
namespace Go.Proofs.Ytfapmogjmjlokaa
open Go.RowKit Go.Maps
/-- All copies are this superblock. -/
def AllAre (G : Nat → Int) (t : Sup) : Prop := ∀ i, i < 4 → Has G i t.img
theorem AllAre.best {G : Nat → Int} {t : Sup} (h : AllAre G t) (m : t.May) : ∃ q, q < 4 ∧ best G 4 = some q ∧ Has G q t.img := by
  refine best_found m (fun i hi hh => ?_) (fun i hi hn => absurd (h i hi) hn) 0 (by omega) (h 0 (by omega))
  by_cases q : i = 0
  · exact votes_two hi (k := 1) (by omega) (by omega) (fun j hj => (h 1 (by omega) j hj).trans (hh j hj).symm)
  · exact votes_two hi (k := 0) (by omega) q (fun j hj => (h 0 (by omega) j hj).trans (hh j hj).symm)
/-- What find answers where one copy is open. -/
def FndOk (W : World) (G : Nat → Int) (q : Nat) (e : Ending) (w' : World) : Prop := ∃ a C g, e = .returned (.tuple #[.agg (fndC (.slice (some ⟨g, 0, none⟩) 2048 2048) (cp G q) (supOf (behO (cp G q))) a C).toArray, .int .i64 0]) ∧ W.heap.size ≤ g ∧ Lies w' g 0 2048 G ∧ Below W.heap.size W w'
theorem find_some {w0 u : World} {d s m q : Nat} {D : Dsk} (h : St w0 u d s m D) (hf : D.free) (hn : 8 ≤ D.N) (hq : best D.sec 4 = some q) : Calls Try.prog 46 #[.pointer (some ⟨d, 0, none⟩)] u (FndOk u D.sec q) := by
  refine (find_go u d s m D 0 false h.at' (hf.fuse u 0) hf.up hn).mono ?_
  rintro e w' (⟨h1, _⟩ | ⟨q', a, C, g, h1, rfl, h2, h3, _, _, _, h7⟩)
  · rw [hq] at h1; cases h1
  · rw [hq] at h1
    injection h1 with h1
    subst h1
    exact ⟨a, C, g, rfl, h2, h3, h7⟩
/-- What Write makes of a disk. -/
def Dsk.writ (D : Dsk) (F : Nat → Int) : Dsk := (D.kept 0 F 4).kept 4 F 4
/-- While the halves are written. -/
def wrRel (w0 W : World) (d s m : Nat) (D : Dsk) (F : Nat → Int) (b B : Nat) (cs : List Value) (H4 : Nat) (i : Value) (wr : World) : Prop := ∃ (k : Nat) (m' : Nat), k ≤ 2 ∧ i = .int .i64 (2 * k : Int) ∧ St w0 wr d s m' (if k = 0 then D else if k = 1 then D.kept 0 F 4 else D.writ F) ∧ (m' = m ∨ W.heap.size ≤ m') ∧ m' ≠ b ∧ m' ≠ B ∧ m' ≠ H4 ∧ Lies wr b 0 1024 F ∧ Rec19 wr B 0 cs ∧ Rec19 wr H4 0 (supC sup0 none 0) ∧ B < wr.heap.size ∧ Off [d, s, m] W wr
/-- What Write answers. -/
def WrPost (w0 W : World) (d s m : Nat) (D' : Dsk) (s' : Sup) (e : Ending) (w' : World) : Prop := ∃ a C m', e = .returned (.tuple #[supV s' a C, .int .i64 0]) ∧ HArg w' a s'.k s'.h ∧ s'.k ≤ C ∧ (0 < s'.k → ∀ r, a = some r → W.heap.size ≤ r.block ∧ r.block ≠ m') ∧ St w0 w' d s m' D' ∧ (m' = m ∨ W.heap.size ≤ m') ∧ Off [d, s, m] W w'
set_option maxRecDepth 100000 in
set_option maxHeartbeats 600000 in
theorem write_st (w0 W : World) (d s m : Nat) (D : Dsk) (t sp : Sup) (a : Option Addr) (C : Nat) (h : St w0 W d s m D) (hf : D.few 100) (hn : 8 ≤ D.N) (hall : AllAre D.sec t) (ht : t.May) (hq : t.x 0 ≠ mOp) (hA : HArg w0 a sp.k sp.h) (hm : (sp.setq (t.x 0 + 1)).May) :
    Calls Try.prog 22 #[.pointer (some ⟨d, 0, none⟩), supV sp a C] W (WrPost w0 W d s m (D.writ (rep (sp.setq (t.x 0 + 1)).img)) (sp.setq (t.x 0 + 1))) := by
  obtain ⟨q, q4, hbest, hhas⟩ := hall.best ht
  have e0 : (supOf (behO (cp D.sec q))).x 0 = t.x 0 := ((has_seq ht hhas).2.1.2.2.1 0 (by omega)).symm
  have tb : 1 ≤ t.x 0 ∧ t.x 0 ≤ mOp := ht.2.2.1
  have SS : Hid (St w0 W d s m D) := h
  have FN : Hid (∀ u, St w0 u d s m D → Calls Try.prog 46 #[.pointer (some ⟨d, 0, none⟩)] u (FndOk u D.sec q)) := fun u hu => find_some hu (hf.free (by decide)) hn hbest
  have MD : Hid (∀ u g s a C, Lies u g 0 2048 D.sec → Calls Try.prog 47 #[.agg (fndC (.slice (some ⟨g, 0, none⟩) 2048 2048) (cp D.sec q) s a C).toArray, .pointer (some ⟨d, 0, none⟩)] u fun e w' => e = .returned (.int .i64 0) ∧ Below u.heap.size u w') := fun u g s a C hL => mend_same u g D.sec (cp D.sec q) s a C _ hL (fun i hi j hj => (hall i hi j hj).trans (hhas j hj).symm)
  obtain ⟨x0, hx0⟩ : ∃ x, t.x 0 = x := ⟨_, rfl⟩
  rw [hx0] at e0 hq tb hm ⊢
  obtain ⟨F, hF⟩ : ∃ F, rep (sp.setq (x0 + 1)).img = F := ⟨_, rfl⟩
  have BY : Hid (∀ u, Below W.heap.size W u → Calls Try.prog 10 #[.agg (supC (sp.setq (x0 + 1)) a C).toArray] u (ByPost u (sp.setq (x0 + 1)))) := fun u hB => bytes_ok (sp.setq (x0 + 1)) a C u ((hA.below h.bel).below hB) hm
  have RP : Hid (∀ u b, Lies u b 0 512 (sp.setq (x0 + 1)).img → Calls Try.prog 48 #[.slice (some ⟨b, 0, none⟩) 512 512, .int .i64 2] u (RepPost u 1024 (sp.setq (x0 + 1)).img)) := fun u b hL => repeat_any b 0 512 2 1024 _ u hL (by omega) rfl (by omega) mul_2
  have KP : Hid (∀ u b m' x D', St w0 u d s m' D' → D'.few 200 → x ≤ 2 → 8 ≤ D'.N → Lies u b 0 1024 F → b ≠ s → b ≠ m' → Calls Try.prog 49 #[.pointer (some ⟨d, 0, none⟩), .int .i64 ((x : Nat) : Int), .slice (some ⟨b, 0, none⟩) 1024 1024] u (KeptPost w0 u d s m' (D'.kept (x * 2) F 4))) := fun u b m' x D' hu hfe hx hN hL h1 h2 => keep_st w0 u d s m' x b 0 4 1024 1024 D' _ hu (hfe.mono (by decide)) (by omega) rfl hL (by omega) (by omega) (by omega) (by omega) ⟨h1, h2⟩
  have FE : Hid (D.few 100 ∧ 8 ≤ D.N) := ⟨hf, hn⟩
  have HM : Hid ((sp.setq (x0 + 1)).k ≤ 32) := hm.2.1
  have HA : Hid (HArg w0 a (sp.setq (x0 + 1)).k (sp.setq (x0 + 1)).h) := hA
  have HFF : Hid (rep (sp.setq (x0 + 1)).img = F) := hF
  rw [hF]
  have dl := h.at'.dl
  have sl := h.at'.sl
  have ml := h.at'.ml
  have x1 : (x0 == 1073741824) = false := by unfold mOp at hq; simpa using hq
  have x2 : IntKind.i64.wrap (x0 + 1) = x0 + 1 := by unfold mOp at tb; rw [IntKind.wrap_i64]; omega
  have x3 : wrap64 (x0 + 1) = x0 + 1 := by unfold mOp at tb; unfold wrap64; omega
  have E0 : Hid ((supOf (behO (cp D.sec q))).x 0 = x0) := e0
  clear h hf hn hall ht hq hA hm hbest hhas e0 tb hx0 hF q4
  unfold supV
  have K1 : Hid True := trivial
  have K2 : Hid True := trivial
  go_enter Try.func22, Try.ntmps22
  go_wp2_with (first
    | (refine wpList_box_rec rfl 26 (.tmp 1) rfl (supC sp a C) rfl W.heap.size rfl ?_; intro W0 R0 B0 z0)
    | (have _q := K1; clear K1; refine wpList_alloc_rec rfl 26 rfl (supC sup0 none 0) (W.heap.size + 1) z0 zero_super ?_; intro W1 R1 B1 z1
       have E1 : Below W.heap.size W W1 := B0.trans (B1.mono (by omega))
       have R0a := R0.below (B1.mono (by omega)))
    | (go_at_call 46; refine (FN.out _ (SS.out.below E1)).mono ?_; rintro e w2 ⟨af, Cf, g, rfl, hg, L2, B2⟩
       have E2 : Below W.heap.size W w2 := E1.trans (B2.mono E1.size)
       have R0b := R0a.below B2
       have R1b := R1.below B2
       have z2 := B2.size
       clear R0 B0 R1 B1 R0a)
    | (have _q := K2; clear K2; refine wpList_alloc_rec rfl 87 rfl fnd0 w2.heap.size rfl zero_found ?_; intro W3 R3 B3 z3)
    | (refine wpList_store_rec rfl 87 (.tmp 6) (.tmp 16) rfl w2.heap.size 0 _ (fndC (.slice (some ⟨g, 0, none⟩) 2048 2048) (cp D.sec q) (supOf (behO (cp D.sec q))) af Cf) rfl rfl R3 (by rw [fndC_len]; exact fndC_len _ _ _ _ _) (by rw [fndC_len]; exact info_found) (fndC_one _ _ _ _ _ rfl) ?_; intro W4 R4 B4
       have E24 : Below w2.heap.size w2 W4 := B3.trans (B4.below (Nat.le_refl _) (by omega))
       have E4 : Below W.heap.size W W4 := E2.trans (E24.mono E2.size)
       have R0c := R0b.below E24
       have R1c := R1b.below E24
       have L4 := L2.below E24
       have c513 : W4.cell? ⟨w2.heap.size, 513, none⟩ = some (.int .i64 x0) := by
         have h1 : Rec19 W4 w2.heap.size 0 (([.slice (some ⟨g, 0, none⟩) 2048 2048] ++ cl .u8 512 (cp D.sec q)) ++ supC (supOf (behO (cp D.sec q))) af Cf ++ []) := by rw [List.append_nil]; exact R4
         have h2 := h1.sub
         rw [show ([Value.slice (some ⟨g, 0, none⟩) 2048 2048] ++ cl .u8 512 (cp D.sec q)).length = 513 by rw [List.length_append, cl_len]; rfl] at h2
         have := h2.1 0 _ rfl
         rw [E0.out] at this
         exact this
       obtain ⟨c0, f0⟩ := R0c.cel 0 _ rfl
       have R5 : Rec19 (W4.setCell ⟨W.heap.size, 0, none⟩ (.int .i64 (x0 + 1))) W.heap.size 0 (supC (sp.setq (x0 + 1)) a C) := R0c.put 0 (.int .i64 (x0 + 1))
       have U5 : But W.heap.size W4 (W4.setCell ⟨W.heap.size, 0, none⟩ (.int .i64 (x0 + 1))) := But.set _ _ _
       have E5 : Below W.heap.size W (W4.setCell ⟨W.heap.size, 0, none⟩ (.int .i64 (x0 + 1))) := E4.trans (U5.below (Nat.le_refl _) E4.size)
       have R1d := R1c.but U5 (by omega)
       have R4d := R4.but U5 (by omega)
       have L5 := L4.but U5 (by have := E1.size; omega)
       clear R0b R1b L2 R3 B3 B4 E24 E4 R0c R1c L4 R4 U5)
    | (refine wpList_load_rec rfl 26 (.tmp 3) rfl W.heap.size 0 (supC (sp.setq (x0 + 1)) a C) rfl _ Try.underlying26 rfl (by kernel_rfl) R5 ?_)
    | (go_at_call 10; refine (BY.out _ E5).mono ?_; rintro e w6 ⟨g6, rfl, hg6, L6, B6⟩
       have E6 : Below W.heap.size W w6 := E5.trans (B6.mono E5.size)
       have L6' := L6.lies (fun j hj => Sup.img_byte _ j hj)
       have R6 := R5.below B6
       have R1e := R1d.below B6
       have R4e := R4d.below B6
       have L5e := L5.below B6
       clear L6 R5 R1d R4d L5)
    | (refine wpList_load_rec rfl 87 (.tmp 6) rfl w2.heap.size 0 (fndC (.slice (some ⟨g, 0, none⟩) 2048 2048) (cp D.sec q) (supOf (behO (cp D.sec q))) af Cf) rfl _ Try.underlying87 rfl (by rw [fndC_len]; exact info_found) R4e ?_)
    | (go_at_call 47; refine (MD.out _ g _ af Cf L5e).mono ?_; rintro e w7 ⟨rfl, B7⟩
       have E7 : Below W.heap.size W w7 := E6.trans (B7.mono E6.size)
       have R7 := R6.below B7
       have R1f := R1e.below B7
       have L7 := L6'.below B7
       clear R6 R1e R4e L5e L6')
    | (go_at_call 48; refine (RP.out _ g6 L7).mono ?_; rintro e w8 ⟨g8, rfl, hg8, L8, B8⟩
       rw [HFF.out] at L8
       have E8 : Below W.heap.size W w8 := E7.trans (B8.mono E7.size)
       have R8 := R7.below B8
       have R1g := R1f.below B8
       have S8 : St w0 w8 d s m D := SS.out.below E8
       have s7 := E7.size
       have RZ : Hid (wrRel w0 W d s m D F g8 W.heap.size (supC (sp.setq (x0 + 1)) a C) (W.heap.size + 1) (.int .i64 0) w8) := ⟨0, m, by omega, rfl, S8, .inl rfl, by omega, by omega, by omega, L8, R8, R1g, R8.2.2, Off.of E8⟩
       have n1 : g8 ≠ s := by omega
       clear R7 R1f L7 L8 R8 R1g S8 B8 E8))
  go_loopw [11] (fun i wr => wrRel w0 W d s m D F g8 W.heap.size (supC (sp.setq (x0 + 1)) a C) (W.heap.size + 1) i wr) (fun i _ => 6 - (RowKit.intOf i).toNat)
  case atStart => exact RZ.out
  case round =>
    obtain ⟨k, m', k2, rfl, hS, hm', q1, q2, q3, hL, hB, hH, hBl, hO⟩ := hrel
    clear RZ
    obtain ⟨F1, F2⟩ := FE.out
    have gl := hL.2.2
    have hHl := hH.2.2
    by_cases hlt : k < 2
    · have KC := KP.out wr g8 m' (2 * k) _ hS (by
        split
        · exact F1.mono (by decide)
        · split
          · exact (F1.kept 0 F 4).mono (by decide)
          · omega) (by omega) (by
        split
        · exact F2
        · split
          · rw [Dsk.kept_N]; exact F2
          · omega) hL n1 (Ne.symm q1)
      have KH : Hid (Calls Try.prog 49 #[.pointer (some ⟨d, 0, none⟩), .int .i64 (2 * (k : Int)), .slice (some ⟨g8, 0, none⟩) 1024 1024] wr fun e w' => e = .returned (.int .i64 0) ∧ wrRel w0 W d s m D F g8 W.heap.size (supC (sp.setq (x0 + 1)) a C) (W.heap.size + 1) (.int .i64 (2 * (k : Int) + 2)) w') := by
        have ce : ((2 * k : Nat) : Int) = 2 * (k : Int) := by omega
        rw [ce] at KC
        refine KC.mono ?_
        rintro e w' ⟨rfl, m2, hS2, hm2, hO2⟩
        have nn : ∀ y, y < wr.heap.size → m' ≠ y → m2 ≠ y := fun y y1 y2 => by
          rcases hm2 with r | r
          · rw [r]; exact y2
          · omega
        refine ⟨rfl, k + 1, m2, by omega, by go_num, ?_, ?_, nn _ gl q1, nn _ hBl q2, nn _ hHl q3, hL.off hO2 ?_, hB.off hO2 ?_, hH.off hO2 ?_, by have := hO2.size; omega, ?_⟩
        · have kk : k = 0 ∨ k = 1 := by omega
          rcases kk with rfl | rfl
          · simpa using hS2
          · simpa [Dsk.writ] using hS2
        · rcases hm2 with r | r
          · rw [r]; exact hm'
          · exact .inr (Nat.le_trans hO.size r)
        · have := hS.at'.dl
          simp only [List.mem_cons, List.not_mem_nil, or_false, not_or]
          exact ⟨by omega, n1, Ne.symm q1⟩
        · simp only [List.mem_cons, List.not_mem_nil, or_false, not_or]
          exact ⟨by omega, by omega, Ne.symm q2⟩
        · simp only [List.mem_cons, List.not_mem_nil, or_false, not_or]
          exact ⟨by omega, by omega, Ne.symm q3⟩
        · refine hO.far hO2 (fun y q => ?_)
          simp at q
          rcases q with q | q | q
          · exact .inl (by simp [q])
          · exact .inl (by simp [q])
          · rcases hm' with r | r
            · exact .inl (by simp [q, r])
            · exact .inr (by omega)
      have i0 : (2 * (k : Int) < 4) := by omega
      have i1 : IntKind.i64.wrap (2 * (k : Int) + 2) = 2 * (k : Int) + 2 := by rw [IntKind.wrap_i64]; omega
      have i2 : wrap64 (2 * (k : Int) + 2) = 2 * (k : Int) + 2 := by unfold wrap64; omega
      clear KC hS hL hB hH hO hm' q1 q2 q3 F1 F2 gl hHl hBl KP
      go_wp2_with (go_at_call 49; refine KH.out.mono ?_; rintro e w9 ⟨rfl, r9⟩; have R9 : Hid (wrRel w0 W d s m D F g8 W.heap.size (supC (sp.setq (x0 + 1)) a C) (W.heap.size + 1) (.int .i64 (2 * (k : Int) + 2)) w9) := r9; clear r9)
      go_roundw
      case rel => exact R9.out
      case measure => simp [RowKit.intOf]; omega
    · obtain rfl : k = 2 := by omega
      have hS' : St w0 wr d s m' (D.writ F) := by simpa using hS
      obtain ⟨a', C', W2, hr2, hA2, hC2, hB2, hn2, hz2⟩ := heads_app (C := C) (OwnI.nil wr wr.heap.size 75 2 _) (HA.out.below hS'.bel) (by have := HM.out; omega) (Nat.le_refl _)
      have R1 := hB.below hB2
      have H1 := hH.below hB2
      obtain ⟨c10, f10⟩ := hB.cel 10 _ rfl
      obtain ⟨d10, e10⟩ := R1.cel 10 _ rfl
      obtain ⟨W3, hW3⟩ : ∃ W3, W2.setCell ⟨W.heap.size, 10, none⟩ (.slice a' (sp.setq (x0 + 1)).k C') = W3 := ⟨_, rfl⟩
      have R3 : Rec19 W3 W.heap.size 0 (supC (sp.setq (x0 + 1)) a' C') := by rw [← hW3]; exact R1.put 10 _
      have U3 : But W.heap.size W2 W3 := by rw [← hW3]; exact But.set _ _ _
      have H3 := H1.but U3 (by omega)
      have PP : Hid (∀ W4, But (W.heap.size + 1) W3 W4 → WrPost w0 W d s m (D.writ F) (sp.setq (x0 + 1)) (.returned (.tuple #[supV (sp.setq (x0 + 1)) a' C', .int .i64 0])) W4) := by
        intro W4 U4
        have w0W := SS.out.bel.size
        have ml' := hS'.at'.ml
        have dl' := hS'.at'.dl
        have sl' := hS'.at'.sl
        have s2 : St w0 W2 d s m' (D.writ F) := hS'.below hB2
        have s3 := s2.but U3 (by omega) (by omega) q2 w0W
        have s4 := s3.but U4 (by omega) (by omega) q3 (by omega)
        have o4 : Off [d, s, m] W W4 := ((hO.trans (Off.of (hB2.mono (Nat.le_refl _)))).far (Off.but (bs := [W.heap.size]) U3 (by simp)) (fun y q => by simp at q; exact .inr (by omega))).far (Off.but (bs := [W.heap.size + 1]) U4 (by simp)) (fun y q => by simp at q; exact .inr (by omega))
        refine ⟨a', C', m', rfl, ?_, hC2, fun k0 r hr => ?_, s4, hm', o4⟩
        · by_cases k0 : 0 < (sp.setq (x0 + 1)).k
          · obtain ⟨r, rfl, hr⟩ := hn2 k0
            have a3 : HArg W3 (some ⟨r, 0, none⟩) (sp.setq (x0 + 1)).k (sp.setq (x0 + 1)).h := hA2.off (Off.but (bs := [W.heap.size]) U3 (by simp)) (fun y hy => by injection hy with hy; subst hy; simp; omega)
            exact a3.off (Off.but (bs := [W.heap.size + 1]) U4 (by simp)) (fun y hy => by injection hy with hy; subst hy; simp; omega)
          · exact .inl (by omega)
        · obtain ⟨r', rfl, hr'⟩ := hn2 k0
          injection hr with hr
          subst hr
          have := hO.size
          exact ⟨by show W.heap.size ≤ r'; omega, by show r' ≠ m'; omega⟩
      clear hS hS' hL hB hH hO hm' q1 q2 q3 F1 F2 gl hHl hBl KP hA2 hC2 hB2 hn2 hz2 R1 H1 U3
      go_wp2_with (first
        | (at_builtin; refine wpList_append_go rfl (.const (.slice none 0 0)) (.tmp 63) 24 24 rfl _ _ rfl rfl hr2 ?_)
        | (refine wpList_load_rec rfl 26 (.tmp 3) rfl W.heap.size 0 (supC (sp.setq (x0 + 1)) a' C') rfl _ Try.underlying26 rfl (by kernel_rfl) R3 ?_)
        | (refine wpList_store_rec rfl 26 (.tmp 4) (.tmp 66) rfl (W.heap.size + 1) 0 _ (supC (sp.setq (x0 + 1)) a' C') rfl rfl H3 rfl (by kernel_rfl) (supC_one _ _ _) ?_; intro W4 R4 B4))
      have hl := R4.run_load 26 _ Try.underlying26 rfl (by kernel_rfl)
      exact bodyPost_ret (v := .tuple #[supV (sp.setq (x0 + 1)) a' C', .int .i64 0]) (by simp [results, Try.results22, asAddr, supV, hl]) rfl (PP.out _ B4)
end Go.Proofs.Ytfapmogjmjlokaa
namespace Go.Proofs.Ytfapmogjmjlokaa
open Go.RowKit Go.Maps
theorem wpList_neq_w {ops : Array Oper} {rest : List Oper} {op : Oper} {a : Act} {w : World} {Q : Exit → Act → World → Prop} (hw : Region.wanted op (yielded ops a.tmps) = true) (t t' : TypeId) (x y : Operand) (ho : op.op = .binOp .neq t x y t')
    (X : Array Value) (hx : a.eval x = .agg X) (hy : a.eval y = .agg X) (he : ∀ w, (binOp .neq t (.agg X) (.agg X)).run Try.prog w = .ok (.bool false) w) (hg : Try.prog.eqGuardType Try.prog.depth t = false)
    (hK : wpList Try.prog ops Q rest (a.put op.dst (.bool false)) w) : wpList Try.prog ops Q (op :: rest) a w := by
  refine wpList_step fun K hK' => ?_
  rw [if_pos hw]
  unfold Oper.wp execOp
  simp only [ho, hx, hy, Sem.run_bind, run_eqGuard_agg _ _ _ _ _ _ _ hg, Result.andThen_ok, he]
  exact hK' _ _ hK
/-- A load of a record behind a guard. -/
theorem wpList_load_g {ops : Array Oper} {rest : List Oper} {op : Oper} {a : Act} {w : World} {Q : Exit → Act → World → Prop} (hw : Region.wanted op (yielded ops a.tmps) = true) (ty : TypeId) (x : Operand) (ho : op.op = .load ty x)
    (b o : Nat) (cs : List Value) (hx : a.eval x = .pointer (some ⟨b, o, none⟩)) (d : TypeDesc) (hu : Try.prog.underlying ty = some d) (hd : d.isRow = true) (hi : (Try.prog.info? ty).map (·.size) = some cs.length)
    (h : w.rangeAt b o cs) (hK : wpList Try.prog ops Q rest (a.put op.dst (.agg cs.toArray)) w) : wpList Try.prog ops Q (op :: rest) a w := by
  refine wpList_step fun K hK' => ?_
  rw [if_pos hw]
  unfold Oper.wp execOp
  simp only [ho, hx, Instr.loadAt, Instr.sureAddr, Sem.run_bind, Sem.run_pure, Result.andThen_ok, run_loadVar_mid (P := Try.prog) w b o ty cs d h hu hd hi]
  exact hK' _ _ hK
theorem yieldsIf_neq {ops : Array Oper} {S : World → Prop} {op : Oper} {a : Act} (hw : Region.wanted op (yielded ops a.tmps) = true) (t t' : TypeId) (x y : Operand) (ho : op.op = .binOp .neq t x y t')
    (X : Array Value) (hx : a.eval x = .agg X) (hy : a.eval y = .agg X) (he : ∀ w, (binOp .neq t (.agg X) (.agg X)).run Try.prog w = .ok (.bool false) w) (hg : Try.prog.eqGuardType Try.prog.depth t = false) : YieldsIf Try.prog ops S op (.bool false) a :=
  .inl ⟨hw, fun w _ => by
    unfold execOp
    simp only [ho, hx, hy, Sem.run_bind, run_eqGuard_agg _ _ _ _ _ _ _ hg, Result.andThen_ok, he]
    rfl⟩
def twoC (p q : Int) : List Value := [.int .i64 p, .int .i64 q]
set_option maxRecDepth 100000 in
theorem neq_ref (p q : Int) (w : World) : (binOp .neq 23 (.agg (twoC p q).toArray) (.agg (twoC p q).toArray)).run Try.prog w = .ok (.bool false) w := by
  simp [go_sem, twoC]
theorem guard_ref : Try.prog.eqGuardType Try.prog.depth 23 = false := by kernel_rfl
set_option maxRecDepth 100000 in
theorem neq_head (p q : Int) (w : World) : (binOp .neq 75 (.agg (twoC p q).toArray) (.agg (twoC p q).toArray)).run Try.prog w = .ok (.bool false) w := by
  simp [go_sem, twoC]
theorem guard_head : Try.prog.eqGuardType Try.prog.depth 75 = false := by kernel_rfl
theorem two_range {W : World} {b o : Nat} {p q : Int} (h0 : W.cell? ⟨b, o, none⟩ = some (.int .i64 p)) (h1 : W.cell? ⟨b, o + 1, none⟩ = some (.int .i64 q)) : W.rangeAt b o (twoC p q) := by
  intro j v hj
  match j with
  | 0 => simp [twoC] at hj; subst hj; exact h0
  | 1 => simp [twoC] at hj; subst hj; exact h1
  | j + 2 => simp [twoC] at hj
/-- The counter of the loop. -/
def sameRel (w : World) (k : Nat) (i : Value) (wr : World) : Prop := ∃ j : Nat, j ≤ k ∧ i = .int .i64 (j : Int) ∧ Below w.heap.size w wr
set_option maxRecDepth 100000 in
set_option maxHeartbeats 1000000 in
theorem same_self (s : Sup) (a a' : Option Addr) (C C' : Nat) (w : World) (hA : HArg w a s.k s.h) (hA' : HArg w a' s.k s.h) (hk : s.k ≤ 1000) :
    Calls Try.prog 15 #[supV s a C, supV s a' C'] w fun e w' => e = .returned (.bool true) ∧ Below w.heap.size w w' := by
  have HA : Hid (HArg w a s.k s.h) := hA
  have HA' : Hid (HArg w a' s.k s.h) := hA'
  clear hA hA'
  unfold supV
  go_enter Try.func15, Try.ntmps15
  go_wp2_with (first
    | (refine wpList_box_rec rfl 26 (.tmp 0) rfl (supC s a C) rfl w.heap.size rfl ?_; intro W0 R0 B0 z0)
    | (refine wpList_box_rec rfl 26 (.tmp 1) rfl (supC s a' C') rfl (w.heap.size + 1) z0 ?_; intro W1 R1 B1 z1
       have S0 : Rec19 W1 w.heap.size 0 (supC s a C) := R0.below (by rw [z0]; exact B1)
       have E1 : Hid (Below w.heap.size w W1) := B0.trans (B1.mono (by omega))
       have c00 := S0.1 0 _ rfl
       have c01 := S0.1 1 _ rfl
       have c02 := S0.1 2 _ rfl
       have c03 := S0.1 3 _ rfl
       have c04 := S0.1 4 _ rfl
       have c05 := S0.1 5 _ rfl
       have c06 := S0.1 6 _ rfl
       have c07 : W1.rangeAt w.heap.size 7 (twoC (s.x 7) (s.x 8)) := two_range (S0.1 7 _ rfl) (S0.1 8 _ rfl)
       have c09 := S0.1 9 _ rfl
       have c0a := S0.1 10 _ rfl
       have c10 := R1.1 0 _ rfl
       have c11 := R1.1 1 _ rfl
       have c12 := R1.1 2 _ rfl
       have c13 := R1.1 3 _ rfl
       have c14 := R1.1 4 _ rfl
       have c15 := R1.1 5 _ rfl
       have c16 := R1.1 6 _ rfl
       have c17 : W1.rangeAt (w.heap.size + 1) 7 (twoC (s.x 7) (s.x 8)) := two_range (R1.1 7 _ rfl) (R1.1 8 _ rfl)
       have c19 := R1.1 9 _ rfl
       have c1a := R1.1 10 _ rfl
       simp only [Nat.zero_add] at c00 c01 c02 c03 c04 c05 c06 c09 c0a c10 c11 c12 c13 c14 c15 c16 c19 c1a
       have b2 : ∀ b : Bool, (b != b) = false := by intro b; simp
       clear R0 B0 z0 R1 B1 S0)
    | (refine wpList_load_g (by rfl) 23 (.tmp 63) rfl w.heap.size 7 (twoC (s.x 7) (s.x 8)) rfl _ Try.underlying23 rfl (by kernel_rfl) c07 ?_)
    | (refine wpList_load_g (by rfl) 23 (.tmp 65) rfl (w.heap.size + 1) 7 (twoC (s.x 7) (s.x 8)) rfl _ Try.underlying23 rfl (by kernel_rfl) c17 ?_)
    | (refine wpList_neq_w (by rfl) 23 23 (.tmp 64) (.tmp 66) rfl (twoC (s.x 7) (s.x 8)).toArray rfl rfl (neq_ref _ _) guard_ref ?_))
  have ST : Hid (sameRel W1 s.k (.int .i64 0) W1) := ⟨0, by omega, rfl, Below.refl _ _⟩
  clear c00 c01 c02 c03 c04 c05 c06 c07 c09 c10 c11 c12 c13 c14 c15 c16 c17 c19 b2
  go_loopw [5] (fun i wr => sameRel W1 s.k i wr) (fun i _ => s.k - (RowKit.intOf i).toNat)
  case atStart => exact ST.out
  case round =>
    obtain ⟨j, hj, rfl, hwr⟩ := hrel
    clear ST
    have E2 : Hid (Below w.heap.size w wr) := E1.out.trans (hwr.mono E1.out.size)
    have d0a := (hwr.cell (p := ⟨w.heap.size, 10, none⟩) (by show w.heap.size < W1.heap.size; omega)).trans c0a
    have d1a := (hwr.cell (p := ⟨w.heap.size + 1, 10, none⟩) (by show w.heap.size + 1 < W1.heap.size; omega)).trans c1a
    clear c0a c1a
    by_cases hlt : j < s.k
    · have i0 : (j : Int) < (s.k : Int) := by omega
      rcases HA.out.below E2.out with q | ⟨b, o, e1, hc, hb⟩
      · omega
      rcases HA'.out.below E2.out with q | ⟨b', o', e2, hc', hb'⟩
      · omega
      subst e1 e2
      have r1 : wr.rangeAt b (o + j * 2) (twoC (s.h (2 * j)) (s.h (2 * j + 1))) := two_range (by have := hc (2 * j) (by omega); rw [Nat.mul_comm j 2]; exact this) (by have := hc (2 * j + 1) (by omega); rw [Nat.mul_comm j 2]; exact this)
      have r2 : wr.rangeAt b' (o' + j * 2) (twoC (s.h (2 * j)) (s.h (2 * j + 1))) := two_range (by have := hc' (2 * j) (by omega); rw [Nat.mul_comm j 2]; exact this) (by have := hc' (2 * j + 1) (by omega); rw [Nat.mul_comm j 2]; exact this)
      have i1 : IntKind.i64.wrap ((j : Int) + 1) = (j : Int) + 1 := by rw [IntKind.wrap_i64]; omega
      have i2 : wrap64 ((j : Int) + 1) = (j : Int) + 1 := by unfold wrap64; omega
      have RR : Hid (sameRel W1 s.k (.int .i64 ((j : Int) + 1)) wr.drew) := ⟨j + 1, by omega, by go_num, hwr.drew⟩
      clear hc hc' HA HA' hwr
      go_wp2_with fail
      refine wp_region_noPanic ?_
      refine wp_region_held_drew (S := fun W' => W'.cell? ⟨w.heap.size, 10, none⟩ = some (.slice (some ⟨b, o, none⟩) s.k C) ∧ W'.cell? ⟨w.heap.size + 1, 10, none⟩ = some (.slice (some ⟨b', o', none⟩) s.k C') ∧ W'.rangeAt b (o + j * 2) (twoC (s.h (2 * j)) (s.h (2 * j + 1))) ∧ W'.rangeAt b' (o' + j * 2) (twoC (s.h (2 * j)) (s.h (2 * j + 1)))) (by kernel_rfl) ?_ (fun hHeld => ?_)
      · exact ⟨d0a, d1a, r1, r2⟩
      refine take_at (i := 0) (v := ?_) (some 83) rfl rfl (by kernel_rfl) (by kernel_rfl) (by kernel_rfl) (fun _ _ _ h => h) (Or.inl ⟨by rfl, ?_⟩) (by assumption) ?_
      rotate_left
      · (intro w hSw; (try dsimp only at hSw); obtain ⟨q1, q2, q3⟩ := hSw; clear q3; go_simp; try with_reducible rfl)
      simp only [Act.put, List.setIfInBounds_toArray, List.set_cons_zero, List.set_cons_succ]
      refine take_at (i := 1) (v := ?_) (some 84) rfl rfl (by kernel_rfl) (by kernel_rfl) (by kernel_rfl) (fun _ _ _ h => h) (Or.inl ⟨by rfl, ?_⟩) (by assumption) ?_
      rotate_left
      · (intro w hSw; (try dsimp only at hSw); obtain ⟨q1, q2, q3⟩ := hSw; clear q3; go_simp; try with_reducible rfl)
      simp only [Act.put, List.setIfInBounds_toArray, List.set_cons_zero, List.set_cons_succ]
      refine take_at (i := 2) (v := ?_) (some 85) rfl rfl (by kernel_rfl) (by kernel_rfl) (by kernel_rfl) (fun _ _ _ h => h) (Or.inl ⟨by rfl, ?_⟩) (by assumption) ?_
      rotate_left
      · (intro w hSw; (try dsimp only at hSw); obtain ⟨q1, q2, q3⟩ := hSw; clear q3; go_simp; try with_reducible rfl)
      simp only [Act.put, List.setIfInBounds_toArray, List.set_cons_zero, List.set_cons_succ]
      refine take_at (i := 3) (v := ?_) (some 86) rfl rfl (by kernel_rfl) (by kernel_rfl) (by kernel_rfl) (fun _ _ _ h => h) (Or.inl ⟨by rfl, ?_⟩) (by assumption) ?_
      rotate_left
      · (intro w hSw; (try dsimp only at hSw); obtain ⟨q1, q2, q3⟩ := hSw; clear q3; go_simp; try with_reducible rfl)
      simp only [Act.put, List.setIfInBounds_toArray, List.set_cons_zero, List.set_cons_succ]
      refine take_at (i := 4) (v := _) (some 87) rfl rfl (by kernel_rfl) (by kernel_rfl) (by kernel_rfl) (fun _ _ _ h => h) (yieldsIf_load_mid (by rfl) 75 (.tmp 86) rfl b (o + j * 2) rfl (twoC (s.h (2 * j)) (s.h (2 * j + 1))) _ (fun _ h => h.2.2.1) Try.underlying75 rfl (by kernel_rfl)) (by assumption) ?_
      simp only [Act.put, List.setIfInBounds_toArray, List.set_cons_zero, List.set_cons_succ]
      refine take_at (i := 5) (v := ?_) (some 88) rfl rfl (by kernel_rfl) (by kernel_rfl) (by kernel_rfl) (fun _ _ _ h => h) (Or.inl ⟨by rfl, ?_⟩) (by assumption) ?_
      rotate_left
      · (intro w hSw; (try dsimp only at hSw); obtain ⟨q1, q2, q3⟩ := hSw; clear q3; go_simp; try with_reducible rfl)
      simp only [Act.put, List.setIfInBounds_toArray, List.set_cons_zero, List.set_cons_succ]
      refine take_at (i := 6) (v := ?_) (some 89) rfl rfl (by kernel_rfl) (by kernel_rfl) (by kernel_rfl) (fun _ _ _ h => h) (Or.inl ⟨by rfl, ?_⟩) (by assumption) ?_
      rotate_left
      · (intro w hSw; (try dsimp only at hSw); obtain ⟨q1, q2, q3⟩ := hSw; clear q3; go_simp; try with_reducible rfl)
      simp only [Act.put, List.setIfInBounds_toArray, List.set_cons_zero, List.set_cons_succ]
      refine take_at (i := 7) (v := ?_) (some 90) rfl rfl (by kernel_rfl) (by kernel_rfl) (by kernel_rfl) (fun _ _ _ h => h) (Or.inl ⟨by rfl, ?_⟩) (by assumption) ?_
      rotate_left
      · (intro w hSw; (try dsimp only at hSw); obtain ⟨q1, q2, q3⟩ := hSw; clear q3; go_simp; try with_reducible rfl)
      simp only [Act.put, List.setIfInBounds_toArray, List.set_cons_zero, List.set_cons_succ]
      refine take_at (i := 8) (v := ?_) (some 91) rfl rfl (by kernel_rfl) (by kernel_rfl) (by kernel_rfl) (fun _ _ _ h => h) (Or.inl ⟨by rfl, ?_⟩) (by assumption) ?_
      rotate_left
      · (intro w hSw; (try dsimp only at hSw); obtain ⟨q1, q2, q3⟩ := hSw; clear q3; go_simp; try with_reducible rfl)
      simp only [Act.put, List.setIfInBounds_toArray, List.set_cons_zero, List.set_cons_succ]
      refine take_at (i := 9) (v := _) (some 92) rfl rfl (by kernel_rfl) (by kernel_rfl) (by kernel_rfl) (fun _ _ _ h => h) (yieldsIf_load_mid (by rfl) 75 (.tmp 91) rfl b' (o' + j * 2) rfl (twoC (s.h (2 * j)) (s.h (2 * j + 1))) _ (fun _ h => h.2.2.2) Try.underlying75 rfl (by kernel_rfl)) (by assumption) ?_
      simp only [Act.put, List.setIfInBounds_toArray, List.set_cons_zero, List.set_cons_succ]
      refine take_at (i := 10) (v := _) (some 93) rfl rfl (by kernel_rfl) (by kernel_rfl) (by kernel_rfl) (fun _ _ _ h => h) (yieldsIf_neq (by rfl) 75 75 (.tmp 87) (.tmp 92) rfl (twoC (s.h (2 * j)) (s.h (2 * j + 1))).toArray rfl rfl (neq_head _ _) guard_head) (by assumption) ?_
      simp only [Act.put, List.setIfInBounds_toArray, List.set_cons_zero, List.set_cons_succ]
      refine wpAnyH_done (by kernel_rfl) ?_ _
      refine NoPanic.normal ?_
      go_wp2_with fail
      go_roundw
      case rel => exact RR.out
      case measure => simp [RowKit.intOf]; omega
    · have i0 : ¬ (j : Int) < (s.k : Int) := by omega
      go_wp2
      go_ret
      exact ⟨rfl, E2.out⟩
end Go.Proofs.Ytfapmogjmjlokaa
namespace Go.Proofs.Ytfapmogjmjlokaa
open Go.RowKit Go.Maps
/-- What Open answers, of what find does. -/
def OpGen (W : World) (R : World → World → Sup → Option Addr → Nat → Int → Prop) (e : Ending) (w' : World) : Prop := ∃ u w1 s a C c, e = .returned (.tuple #[supV s a C, .int .i64 c]) ∧ Below W.heap.size W u ∧ u.heap.size = W.heap.size + 1 ∧ R u w1 s a C c ∧ Off [W.heap.size] w1 w' ∧ Below W.heap.size W w'
set_option maxRecDepth 100000 in
set_option maxHeartbeats 400000 in
theorem open_gen (W : World) (p : Option Addr) (R : World → World → Sup → Option Addr → Nat → Int → Prop)
    (h : ∀ u, Below W.heap.size W u → Calls Try.prog 46 #[.pointer p] u fun e w' => ∃ v f s a C c, e = .returned (.tuple #[.agg (fndC v f s a C).toArray, .int .i64 c]) ∧ R u w' s a C c ∧ v.oneCell' = true ∧ Below u.heap.size u w') :
    Calls Try.prog 21 #[.pointer p] W (OpGen W R) := by
  have FN : Hid (∀ u, Below W.heap.size W u → Calls Try.prog 46 #[.pointer p] u fun e w' => ∃ v f s a C c, e = .returned (.tuple #[.agg (fndC v f s a C).toArray, .int .i64 c]) ∧ R u w' s a C c ∧ v.oneCell' = true ∧ Below u.heap.size u w') := h
  clear h
  go_enter Try.func21, Try.ntmps21
  have K1 : Hid True := trivial
  have K2 : Hid True := trivial
  go_wp2_with (first
    | (have _q := K1; clear K1; refine wpList_alloc_rec rfl 26 rfl (supC sup0 none 0) W.heap.size rfl zero_super ?_; intro W0 R0 B0 z0)
    | (go_at_call 46; refine (FN.out _ B0).mono ?_; rintro e w1 ⟨v, f, s, a, C, c, rfl, hR, hv, B1⟩; have HR : Hid (R W0 w1 s a C c) := hR; clear hR)
    | (have _q := K2; clear K2; refine wpList_alloc_rec rfl 87 rfl fnd0 w1.heap.size rfl zero_found ?_; intro W2 R2 B2 z2)
    | (refine wpList_store_rec rfl 87 (.tmp 4) (.tmp 9) rfl w1.heap.size 0 _ (fndC v f s a C) rfl rfl R2 (by rw [fndC_len]; exact fndC_len _ _ _ _ _) (by rw [fndC_len]; exact info_found) (fndC_one _ _ _ _ _ hv) ?_; intro W3 R3 B3
       have R3' : Rec19 W3 w1.heap.size 513 (supC s a C) := by
         have h1 : Rec19 W3 w1.heap.size 0 (([v] ++ cl .u8 512 f) ++ supC s a C ++ []) := by rw [List.append_nil]; exact R3
         have h2 := h1.sub
         rwa [show ([v] ++ cl .u8 512 f).length = 513 by rw [List.length_append, cl_len]; rfl] at h2
       have E3 : Below w1.heap.size w1 W3 := B2.trans (B3.below (Nat.le_refl _) (by omega))
       have R0' : Rec19 W3 W.heap.size 0 (supC sup0 none 0) := (R0.below B1).below E3
       have BB : Hid (Below W.heap.size W W3) := (B0.trans (B1.mono B0.size)).trans (E3.mono (by have := B0.size; have := B1.size; omega)))
    | (refine wpList_load_mid (P := Try.prog) rfl 26 (.tmp 11) rfl w1.heap.size 513 rfl (supC s a C) _ R3'.1 Try.underlying26 rfl (by kernel_rfl) ?_)
    | (refine wpList_store_rec rfl 26 (.tmp 2) (.tmp 12) rfl W.heap.size 0 _ (supC s a C) rfl rfl R0' rfl (by kernel_rfl) (supC_one _ _ _) ?_; intro W9 R9 B9))
  have hl := R9.run_load 26 _ Try.underlying26 rfl (by kernel_rfl)
  refine bodyPost_ret (v := .tuple #[supV s a C, .int .i64 c]) (by simp [results, Try.results21, asAddr, supV, hl]) rfl ⟨W0, w1, s, a, C, c, rfl, B0, z0, HR.out, (Off.of E3).trans (Off.but B9 (by simp)), BB.out.trans (B9.below (Nat.le_refl _) BB.out.size)⟩
/-- What Open answers of a disk that is up, and great enough. -/
def OpenPost (W : World) (G : Nat → Int) (e : Ending) (w' : World) : Prop :=
  (best G 4 = none ∧ e = .returned (.tuple #[supV sup0 none 0, .int .i64 10]) ∧ Below W.heap.size W w') ∨
  (∃ q a C, best G 4 = some q ∧ e = .returned (.tuple #[supV (supOf (behO (cp G q))) a C, .int .i64 0]) ∧ HArg w' a (supOf (behO (cp G q))).k (supOf (behO (cp G q))).h ∧ (supOf (behO (cp G q))).k ≤ C ∧ (∀ r, a = some r → W.heap.size ≤ r.block) ∧ Below W.heap.size W w')
theorem open_go (W : World) (d s m : Nat) (D : Dsk) (l : Int) (o : Bool) (h : DiskAt W d s m D) (hf : FuseIs W D.fz l o) (hu : D.up o = true) (hn : 8 ≤ D.N) : Calls Try.prog 21 #[.pointer (some ⟨d, 0, none⟩)] W (OpenPost W D.sec) := by
  refine (open_gen W (some ⟨d, 0, none⟩) (fun u w1 s a C c => (best D.sec 4 = none ∧ s = sup0 ∧ a = none ∧ C = 0 ∧ c = 10) ∨ ∃ q, best D.sec 4 = some q ∧ s = supOf (behO (cp D.sec q)) ∧ c = 0 ∧ HArg w1 a s.k s.h ∧ s.k ≤ C ∧ ∀ r, a = some r → u.heap.size ≤ r.block) (fun u hB => ?_)).mono ?_
  · refine (find_go u d s m D l o (h.below hB) (hf.below hB) hu hn).mono ?_
    rintro e w' (⟨h1, rfl, h3⟩ | ⟨q, a, C, g, h1, rfl, _, _, h4, h5, h6, h7⟩)
    · exact ⟨_, _, _, _, _, _, rfl, .inl ⟨h1, rfl, rfl, rfl, rfl⟩, rfl, h3⟩
    · exact ⟨_, _, _, _, _, _, rfl, .inr ⟨q, h1, rfl, rfl, h4, h5, h6⟩, rfl, h7⟩
  · rintro e w' ⟨u, w1, s, a, C, c, rfl, hB, hz, (⟨h1, rfl, rfl, rfl, rfl⟩ | ⟨q, h1, rfl, rfl, h4, h5, h6⟩), hO, hE⟩
    · exact .inl ⟨h1, rfl, hE⟩
    · exact .inr ⟨q, a, C, h1, rfl, h4.off hO (fun r e => by have := h6 r e; simp; omega), h5, fun r e => by have := h6 r e; omega, hE⟩
theorem open_er (W : World) (p : Option Addr) (c : Int) (hc : c ≠ 0) (h : ∀ u, Below W.heap.size W u → Calls Try.prog 31 #[.pointer p, .int .i64 0, .int .i64 8] u fun e w' => e = .returned (.tuple #[.slice none 0 0, .int .i64 c]) ∧ w' = u) :
    Calls Try.prog 21 #[.pointer p] W fun e w' => e = .returned (.tuple #[supV sup0 none 0, .int .i64 c]) ∧ Below W.heap.size W w' := by
  refine (open_gen W p (fun _ _ s a C c' => s = sup0 ∧ a = none ∧ C = 0 ∧ c' = c) (fun u hB => ?_)).mono ?_
  · refine (find_er u p c hc (fun v hv => h v (hB.trans (hv.mono hB.size)))).mono ?_
    rintro e w' ⟨rfl, h2⟩
    exact ⟨_, _, _, _, _, _, rfl, ⟨rfl, rfl, rfl, rfl⟩, rfl, h2⟩
  · rintro e w' ⟨u, w1, s, a, C, c', rfl, _, _, ⟨rfl, rfl, rfl, rfl⟩, _, hE⟩
    exact ⟨rfl, hE⟩
end Go.Proofs.Ytfapmogjmjlokaa
namespace Go.Proofs.Ytfapmogjmjlokaa
open Go.RowKit Go.Maps
/-- A superblock of a sequence and a view. -/
def vS (q v : Int) : Sup := ⟨fun i => match i with | 0 => q | 1 => 1 | 2 => 3 | 3 => v | _ => 0, false, 0, fun _ => 0⟩
theorem vS_setq (q v x : Int) : (supC ((vS q v).setq x) none 0) = supC (vS x v) none 0 := rfl
theorem first_any (w : World) : Calls Try.prog 25 #[] w fun e w' => e = .returned (supV (vS 1 4) none 0) ∧ Below w.heap.size w w' := by
  go_enter Try.func25, Try.ntmps25
  go_wp2_with (first
    | (refine wpList_alloc_rec rfl 26 rfl (supC sup0 none 0) w.heap.size rfl zero_super ?_; intro W1 R1 B1 z1)
    | (refine wpList_store_rec rfl 26 (.tmp 0) (.tmp 1) rfl w.heap.size 0 _ (supC (vS 1 4) none 0) rfl rfl R1 rfl (by kernel_rfl) (supC_one _ _ _) ?_; intro W4 R4 B4))
  have hl := R4.run_load 26 _ Try.underlying26 rfl (by kernel_rfl)
  exact bodyPost_ret (v := supV (vS 1 4) none 0) (by simp [results, Try.results25, asAddr, supV, Act.put, hl]) rfl ⟨rfl, B1.trans (B4.below (Nat.le_refl _) (by omega))⟩
theorem viewed_any (w : World) (q v : Int) : Calls Try.prog 27 #[.int .i64 q, .int .i64 v] w fun e w' => e = .returned (supV (vS q v) none 0) ∧ Below w.heap.size w w' := by
  go_enter Try.func27, Try.ntmps27
  go_wp2_with (first
    | (refine wpList_alloc_rec rfl 26 rfl (supC sup0 none 0) w.heap.size rfl zero_super ?_; intro W1 R1 B1 z1)
    | (refine wpList_store_rec rfl 26 (.tmp 4) (.tmp 7) rfl w.heap.size 0 _ (supC (vS q v) none 0) rfl rfl R1 rfl (by kernel_rfl) (supC_one _ _ _) ?_; intro W4 R4 B4))
  have hl := R4.run_load 26 _ Try.underlying26 rfl (by kernel_rfl)
  exact bodyPost_ret (v := supV (vS q v) none 0) (by simp [results, Try.results27, asAddr, supV, Act.put, hl]) rfl ⟨rfl, B1.trans (B4.below (Nat.le_refl _) (by omega))⟩
theorem supV_eq {s t : Sup} (h : s.Eq t) (a : Option Addr) (C : Nat) : supV s a C = supV t a C := by
  obtain ⟨h1, h2, h3, _⟩ := h
  unfold supV supC
  rw [h1, h2, h3 0 (by omega), h3 1 (by omega), h3 2 (by omega), h3 3 (by omega), h3 4 (by omega), h3 5 (by omega), h3 6 (by omega), h3 7 (by omega), h3 8 (by omega)]
theorem HArg.eq {W : World} {a : Option Addr} {s t : Sup} (h : s.Eq t) (hA : HArg W a s.k s.h) : HArg W a t.k t.h := by
  obtain ⟨h1, _, _, h4⟩ := h
  rcases hA with e | ⟨b, off, rfl, hc, hx⟩
  · exact .inl (by omega)
  · exact .inr ⟨b, off, rfl, fun j hj => by rw [← h4 j (by omega)]; exact hc j (by omega), hx⟩
/-- What opens holds its second argument against. -/
theorem open_as {w0 u : World} {d s m q : Nat} {D : Dsk} {t : Sup} (h : St w0 u d s m D) (hf : D.free) (hn : 8 ≤ D.N) (hq : best D.sec 4 = some q) (he : (supOf (behO (cp D.sec q))).Eq t) : Calls Try.prog 21 #[.pointer (some ⟨d, 0, none⟩)] u fun e w' => ∃ a C, e = .returned (.tuple #[supV t a C, .int .i64 0]) ∧ HArg w' a t.k t.h ∧ t.k ≤ C ∧ Below u.heap.size u w' := by
  refine (open_go u d s m D 0 false h.at' (hf.fuse u 0) hf.up hn).mono ?_
  rintro e w' (⟨h1, _⟩ | ⟨q', a, C, h1, rfl, h3, h4, _, h6⟩)
  · rw [hq] at h1; cases h1
  · rw [hq] at h1
    injection h1 with h1
    subst h1
    exact ⟨a, C, by rw [supV_eq he], h3.eq he, by rw [← he.1]; exact h4, h6⟩
set_option maxRecDepth 100000 in
set_option maxHeartbeats 400000 in
theorem opens_ok (w0 W : World) (d s m q : Nat) (D : Dsk) (t : Sup) (a : Option Addr) (C : Nat) (h : St w0 W d s m D) (hf : D.free) (hn : 8 ≤ D.N) (hq : best D.sec 4 = some q) (he : (supOf (behO (cp D.sec q))).Eq t) (hk : t.k ≤ 32) (hA : HArg W a t.k t.h) :
    Calls Try.prog 29 #[.pointer (some ⟨d, 0, none⟩), supV t a C] W fun e w' => e = .returned (.bool true) ∧ Below W.heap.size W w' := by
  have OP : Hid (∀ u, Below W.heap.size W u → Calls Try.prog 21 #[.pointer (some ⟨d, 0, none⟩)] u fun e w' => ∃ a C, e = .returned (.tuple #[supV t a C, .int .i64 0]) ∧ HArg w' a t.k t.h ∧ t.k ≤ C ∧ Below u.heap.size u w') := fun u hB => open_as (h.below hB) hf hn hq he
  have SM : Hid (∀ u a' C', Below W.heap.size W u → HArg u a' t.k t.h → Calls Try.prog 15 #[.agg (supC t a' C').toArray, .agg (supC t a C).toArray] u fun e w' => e = .returned (.bool true) ∧ Below u.heap.size u w') := fun u a' C' hB h1 => same_self t a' a C' C u h1 (hA.below hB) (by omega)
  clear h hf hn hq he hA hk
  unfold supV
  go_enter Try.func29, Try.ntmps29
  go_wp2_with (first
    | (refine wpList_box_rec rfl 26 (.tmp 1) rfl (supC t a C) rfl W.heap.size rfl ?_; intro W0 R0 B0 z0)
    | (go_at_call 21; refine (OP.out _ B0).mono ?_; rintro e w1 ⟨a1, C1, rfl, hA1, hC1, B1⟩
       have E1 : Below W.heap.size W w1 := B0.trans (B1.mono B0.size)
       have R1 := R0.below B1
       clear R0 B0 B1 z0)
    | (refine wpList_alloc_rec rfl 26 rfl (supC sup0 none 0) w1.heap.size rfl zero_super ?_; intro W3 R3 B3 z3)
    | (refine wpList_store_rec rfl 26 (.tmp 5) (.tmp 10) rfl w1.heap.size 0 _ (supC t a1 C1) rfl rfl R3 rfl (by kernel_rfl) (supC_one _ _ _) ?_; intro W4 R4 B4
       have E14 : Below w1.heap.size w1 W4 := B3.trans (B4.below (Nat.le_refl _) (by omega))
       have E4 : Below W.heap.size W W4 := E1.trans (E14.mono E1.size)
       have R1' := (R1.below E14).1
       have R4' := R4.1
       have A4 := hA1.below E14
       clear R3 B3 B4 E14 E1 R1 R4)
    | (refine wpList_load_g (by rfl) 26 (.tmp 5) rfl w1.heap.size 0 (supC t a1 C1) rfl _ Try.underlying26 rfl (by kernel_rfl) R4' ?_)
    | (refine wpList_load_g (by rfl) 26 (.tmp 3) rfl W.heap.size 0 (supC t a C) rfl _ Try.underlying26 rfl (by kernel_rfl) R1' ?_)
    | (go_at_call 15; refine (SM.out _ a1 C1 E4 A4).mono ?_; rintro e w5 ⟨rfl, B5⟩))
  go_ret
  exact ⟨rfl, E4.trans (B5.mono E4.size)⟩
end Go.Proofs.Ytfapmogjmjlokaa
namespace Go.Proofs.Ytfapmogjmjlokaa
open Go.RowKit Go.Maps
theorem Dsk.kept_sec (D : Dsk) (a : Nat) (F : Nat → Int) (k p : Nat) : (D.kept a F k).sec p = if a * 256 ≤ p ∧ p < (a + k) * 256 then F (p - a * 256) else D.sec p := by
  have h := D.wrote_sec a F (p / 256) (p % 256) (Nat.mod_lt _ (by omega)) k
  unfold at256 at h
  rw [show p / 256 * 256 + p % 256 = p by omega] at h
  show (D.wrote a F k).sec p = _
  rw [h]
  by_cases g : a * 256 ≤ p ∧ p < (a + k) * 256
  · rw [if_pos g, if_pos (by omega)]
    congr 1
    have := Nat.div_add_mod p 256
    obtain ⟨c, hc⟩ : ∃ c, p / 256 = a + c := ⟨p / 256 - a, by omega⟩
    rw [hc, Nat.add_sub_cancel_left]
    rw [hc] at this
    omega
  · rw [if_neg g, if_neg (by omega)]
theorem rep_at (f : Nat → Int) {p j : Nat} (h : p % 512 = j) : rep f p = f j := by unfold rep; rw [h]
theorem AllAre.kept (D : Dsk) (s : Sup) : AllAre (D.kept 0 (rep s.img) 8).sec s := by
  intro i hi j hj
  show (D.kept 0 (rep s.img) 8).sec (i * 512 + j) = s.img j
  rw [Dsk.kept_sec, if_pos (by omega)]
  exact rep_at _ (by omega)
theorem AllAre.writ (D : Dsk) (s : Sup) : AllAre (D.writ (rep s.img)).sec s := by
  intro i hi j hj
  show ((D.kept 0 (rep s.img) 4).kept 4 (rep s.img) 4).sec (i * 512 + j) = s.img j
  rw [Dsk.kept_sec, Dsk.kept_sec]
  by_cases g : 2 ≤ i
  · rw [if_pos (by omega)]
    exact rep_at _ (by omega)
  · rw [if_neg (by omega), if_pos (by omega)]
    exact rep_at _ (by omega)
theorem Dsk.few.writ {D : Dsk} {n : Int} (h : D.few n) (F : Nat → Int) : (D.writ F).few (n + 4) := ((h.kept 0 F 4).kept 4 F 4).mono (by omega)
theorem Dsk.writ_N (D : Dsk) (F : Nat → Int) : (D.writ F).N = D.N := ((D.kept 0 F 4).kept_N 4 F 4).trans (D.kept_N 0 F 4)
theorem AllAre.eq {G : Nat → Int} {t : Sup} {q : Nat} (m : t.May) (h : Has G q t.img) : (supOf (behO (cp G q))).Eq t := (has_seq m h).2.1.symm
theorem vS_setq' (q v x : Int) : (vS q v).setq x = vS x v := by
  unfold vS Sup.setq
  congr 1
  funext i
  match i with
  | 0 => rfl
  | 1 => rfl
  | 2 => rfl
  | 3 => rfl
  | _ + 4 => rfl
theorem vS_may (q v : Int) (h1 : 1 ≤ q) (h2 : q ≤ mOp) (h3 : 0 ≤ v) (h4 : v ≤ mOp) : (vS q v).May := by
  refine ⟨.inl rfl, Nat.zero_le _, ⟨h1, h2⟩, ⟨?_, ?_⟩, ⟨h3, h4⟩, ⟨?_, ?_⟩, ⟨?_, ?_⟩, ⟨?_, ?_⟩, ⟨?_, ?_⟩, ⟨?_, ?_⟩, fun j hj => absurd hj (by show ¬ j < 2 * 0; omega)⟩ <;> (show (_ : Int) ≤ _) <;> simp [vS, mOp]
/-- The disk that formatted answers. -/
noncomputable def dskF : Dsk := (dsk0 8).kept 0 (rep (vS 1 4).img) 8
theorem dsk0_few (n : Nat) : (dsk0 n).few 0 := ⟨rfl, rfl, Int.le_refl 0, Int.le_refl 0⟩
theorem dskF_few : dskF.few 2 := (dsk0_few 8).kept 0 _ 8
theorem dskF_N : dskF.N = 8 := (dsk0 8).kept_N 0 _ 8
theorem dskF_all : AllAre dskF.sec (vS 1 4) := AllAre.kept _ _
theorem may1 : (vS 1 4).May := vS_may 1 4 (by decide) (by decide) (by decide) (by decide)
theorem may2 : (vS 2 5).May := vS_may 2 5 (by decide) (by decide) (by decide) (by decide)
theorem format14 (w u : World) (d s m : Nat) (h : St w u d s m (dsk0 8)) : Calls Try.prog 23 #[.pointer (some ⟨d, 0, none⟩), supV (vS 1 4) none 0] u (KeptPost w u d s m dskF) := by
  have q : (vS 1 4).setq 1 = vS 1 4 := vS_setq' 1 4 1
  have := format_st w u d s m (dsk0 8) (vS 1 4) none 0 h ((dsk0_few 8).mono (by decide)) (Nat.le_refl 8) (.inl rfl) (by rw [q]; exact may1)
  rw [q] at this
  exact this
/-- What formatted answers. -/
def FormPost (w : World) (e : Ending) (w' : World) : Prop := ∃ d s m, e = .returned (.tuple #[.pointer (some ⟨d, 0, none⟩), .bool true]) ∧ St w w' d s m dskF
set_option maxRecDepth 100000 in
set_option maxHeartbeats 400000 in
theorem formatted_ok (w : World) : Calls Try.prog 26 #[] w (FormPost w) := by
  have NW : Hid (∀ u, Calls Try.prog 24 #[.int .i64 8] u (NewPost u 8)) := fun u => new_ok 8 u (by omega) (by omega)
  have FM : Hid (∀ u d s m, St w u d s m (dsk0 8) → Calls Try.prog 23 #[.pointer (some ⟨d, 0, none⟩), supV (vS 1 4) none 0] u (KeptPost w u d s m dskF)) := format14 w
  go_enter Try.func26, Try.ntmps26
  go_wp2_with (first
    | (go_at_call 24; refine (NW.out _).mono ?_; rintro e w1 ⟨d, s, m, rfl, h1, h2, h3, h4, h5⟩
       have S1 : Hid (St w w1 d s m (dsk0 8)) := ⟨h4, h1, h2, h3, h5⟩
       clear h1 h2 h3 h4 h5)
    | (go_at_call 25; refine (first_any _).mono ?_; rintro e w2 ⟨rfl, B2⟩
       have S2 : Hid (St w w2 d s m (dsk0 8)) := S1.out.below B2
       clear B2 S1)
    | (go_at_call 23; refine (FM.out _ _ _ _ S2.out).mono ?_; rintro e w3 ⟨rfl, m3, h3, _, _⟩))
  exact bodyPost_ret (v := .tuple #[.pointer (some ⟨d, 0, none⟩), .bool true]) (by simp [results, Try.results26, go_sem]) rfl ⟨d, s, m3, rfl, h3⟩
theorem best_all {D : Dsk} {t : Sup} (h : AllAre D.sec t) (m : t.May) : ∃ q, best D.sec 4 = some q ∧ (supOf (behO (cp D.sec q))).Eq t := by
  obtain ⟨q, _, h1, h2⟩ := h.best m
  exact ⟨q, h1, AllAre.eq m h2⟩
theorem opens_all (w0 W : World) (d s m : Nat) (D : Dsk) (t : Sup) (a : Option Addr) (C : Nat) (h : St w0 W d s m D) (hf : D.free) (hn : 8 ≤ D.N) (hall : AllAre D.sec t) (ht : t.May) (hA : HArg W a t.k t.h) :
    Calls Try.prog 29 #[.pointer (some ⟨d, 0, none⟩), supV t a C] W fun e w' => e = .returned (.bool true) ∧ Below W.heap.size W w' := by
  obtain ⟨q, h1, h2⟩ := best_all hall ht
  exact opens_ok w0 W d s m q D t a C h hf hn h1 h2 ht.2.1 hA
/-- Behind the chapter's Write. -/
noncomputable def dskW : Dsk := dskF.writ (rep (vS 2 5).img)
theorem dskW_few : dskW.few 6 := dskF_few.writ _
theorem dskW_N : dskW.N = 8 := (Dsk.writ_N _ _).trans dskF_N
theorem dskW_all : AllAre dskW.sec (vS 2 5) := AllAre.writ _ _
theorem write25 (w u : World) (d s m : Nat) (h : St w u d s m dskF) : Calls Try.prog 22 #[.pointer (some ⟨d, 0, none⟩), supV (vS 0 5) none 0] u fun e w' => ∃ a C m', e = .returned (.tuple #[supV (vS 2 5) a C, .int .i64 0]) ∧ St w w' d s m' dskW := by
  have q : (vS 0 5).setq ((vS 1 4).x 0 + 1) = vS 2 5 := vS_setq' 0 5 2
  have := write_st w u d s m dskF (vS 1 4) (vS 0 5) none 0 h (dskF_few.mono (by decide)) (by rw [dskF_N]; omega) dskF_all may1 (by decide) (.inl rfl) (by rw [q]; exact may2)
  rw [q] at this
  refine this.mono ?_
  rintro e w' ⟨a, C, m', rfl, _, _, _, h5, _, _⟩
  exact ⟨a, C, m', rfl, h5⟩
set_option maxRecDepth 100000 in
set_option maxHeartbeats 600000 in
theorem awake_ok (w : World) : Calls Try.prog 20 #[] w fun e w' => e = .returned (.bool true) ∧ Below w.heap.size w w' := by
  have FO : Hid (∀ u, Calls Try.prog 26 #[] u (FormPost u)) := formatted_ok
  have O1 : Hid (∀ u d s m, St w u d s m dskF → Calls Try.prog 29 #[.pointer (some ⟨d, 0, none⟩), supV (vS 1 4) none 0] u fun e w' => e = .returned (.bool true) ∧ Below u.heap.size u w') := fun u d s m h => opens_all w u d s m dskF _ none 0 h (dskF_few.free (by decide)) (by rw [dskF_N]; omega) dskF_all may1 (.inl rfl)
  have O2 : Hid (∀ u d s m, St w u d s m dskW → Calls Try.prog 29 #[.pointer (some ⟨d, 0, none⟩), supV (vS 2 5) none 0] u fun e w' => e = .returned (.bool true) ∧ Below u.heap.size u w') := fun u d s m h => opens_all w u d s m dskW _ none 0 h (dskW_few.free (by decide)) (by rw [dskW_N]; omega) dskW_all may2 (.inl rfl)
  go_enter Try.func20, Try.ntmps20
  go_wp2_with (first
    | (go_at_call 26; refine (FO.out _).mono ?_; rintro e w1 ⟨d, s, m, rfl, h1⟩; have S1 : Hid (St w w1 d s m dskF) := h1; clear h1)
    | (go_at_call 25; refine (first_any _).mono ?_; rintro e w2 ⟨rfl, B2⟩
       have S2 : Hid (St w w2 d s m dskF) := S1.out.below B2
       clear B2 S1)
    | (have _q := S2; go_at_call 29; refine (O1.out _ _ _ _ S2.out).mono ?_; rintro e w3 ⟨rfl, B3⟩
       have S3 : Hid (St w w3 d s m dskF) := S2.out.below B3
       clear B3 S2 _q)
    | (have _q := S3; go_at_call 27; refine (viewed_any _ _ _).mono ?_; rintro e w4 ⟨rfl, B4⟩
       have S4 : Hid (St w w4 d s m dskF) := S3.out.below B4
       clear B4 S3 _q)
    | (go_at_call 22; refine (write25 w _ d s m S4.out).mono ?_; rintro e w5 ⟨a5, C5, m5, rfl, h5⟩
       have S5 : Hid (St w w5 d s m5 dskW) := h5
       clear S4 h5)
    | (refine wpList_alloc_rec rfl 26 rfl (supC sup0 none 0) w5.heap.size rfl zero_super ?_; intro W6 R6 B6 z6)
    | (refine wpList_store_rec rfl 26 (.tmp 3) (.tmp 21) rfl w5.heap.size 0 _ (supC (vS 2 5) a5 C5) rfl rfl R6 rfl (by kernel_rfl) (supC_one _ _ _) ?_; intro W7 R7 B7
       have E7 : Below w5.heap.size w5 W7 := B6.trans (B7.below (Nat.le_refl _) (by omega))
       have S7 : Hid (St w W7 d s m5 dskW) := S5.out.below E7
       clear R6 B6 z6 B7 S5 E7))
  refine wp_region_noPanic ?_
  refine wp_region_held_drew (S := fun W' => W'.rangeAt w5.heap.size 0 (supC (vS 2 5) a5 C5) ∧ Hid (Below W7.heap.size W7 W')) (by kernel_rfl) ?_ (fun hHeld => ?_)
  · exact ⟨R7.1, (Below.refl _ _).drew⟩
  have KEEP : ∀ {u u' : World}, (u.rangeAt w5.heap.size 0 (supC (vS 2 5) a5 C5) ∧ Hid (Below W7.heap.size W7 u)) → Below u.heap.size u u' → u'.rangeAt w5.heap.size 0 (supC (vS 2 5) a5 C5) ∧ Hid (Below W7.heap.size W7 u') := fun h hB => by
    have b := h.2.out.trans (hB.mono h.2.out.size)
    exact ⟨(R7.below b).1, b⟩
  refine take_at (i := 0) (v := ?_) (some 23) rfl rfl (by kernel_rfl) (by kernel_rfl) (by kernel_rfl) (fun _ _ _ h => h) (Or.inl ⟨by rfl, ?_⟩) (by assumption) ?_
  rotate_left
  · (intro w hSw; (try dsimp only at hSw); clear hSw; go_simp; try with_reducible rfl)
  simp only [Act.put, List.setIfInBounds_toArray, List.set_cons_zero, List.set_cons_succ]
  refine take_at (i := 1) (v := ?_) (some 24) rfl rfl (by kernel_rfl) (by kernel_rfl) (by kernel_rfl) (fun _ _ _ h => h) (Or.inl ⟨by rfl, ?_⟩) (by assumption) ?_
  rotate_left
  · (intro w hSw; (try dsimp only at hSw); clear hSw; go_simp; try with_reducible rfl)
  simp only [Act.put, List.setIfInBounds_toArray, List.set_cons_zero, List.set_cons_succ]
  refine take_at (i := 2) (v := ?_) (some 25) rfl rfl (by kernel_rfl) (by kernel_rfl) (by kernel_rfl) (fun _ _ _ h => h) (Or.inl ⟨by rfl, ?_⟩) (by assumption) ?_
  rotate_left
  · (intro w hSw; (try dsimp only at hSw); clear hSw; go_simp; try with_reducible rfl)
  simp only [Act.put, List.setIfInBounds_toArray, List.set_cons_zero, List.set_cons_succ]
  refine take_at (i := 3) (v := _) (some 26) rfl rfl (by kernel_rfl) (by kernel_rfl) (by kernel_rfl) (fun _ _ _ h => h) (yieldsIf_load_mid (by rfl) 26 (.tmp 3) rfl w5.heap.size 0 rfl (supC (vS 2 5) a5 C5) _ (fun _ h => h.1) Try.underlying26 rfl (by kernel_rfl)) (by assumption) ?_
  simp only [Act.put, List.setIfInBounds_toArray, List.set_cons_zero, List.set_cons_succ]
  refine call_at (i := 4) (some 27) 27 _ _ rfl rfl rfl (by rfl) (by kernel_rfl) #[.int .i64 2, .int .i64 5] rfl Try.func27 (by kernel_rfl) (by kernel_rfl) ?_
  refine (viewed_any _ 2 5).mono ?_; rintro e w' ⟨rfl, hB⟩
  refine ⟨_, rfl, KEEP hHeld hB, fun hHeld => ?_⟩
  simp only [Act.put, List.setIfInBounds_toArray, List.set_cons_zero, List.set_cons_succ]
  refine call_at (i := 5) (some 28) 15 _ _ rfl rfl rfl (by rfl) (by kernel_rfl) #[supV (vS 2 5) a5 C5, supV (vS 2 5) none 0] rfl Try.func15 (by kernel_rfl) (by kernel_rfl) ?_
  refine (same_self (vS 2 5) a5 none C5 0 _ (.inl rfl) (.inl rfl) (Nat.zero_le _)).mono ?_; rintro e w' ⟨rfl, hB⟩
  refine ⟨_, rfl, KEEP hHeld hB, fun hHeld => ?_⟩
  simp only [Act.put, List.setIfInBounds_toArray, List.set_cons_zero, List.set_cons_succ]
  refine take_at (i := 6) (v := ?_) (some 29) rfl rfl (by kernel_rfl) (by kernel_rfl) (by kernel_rfl) (fun _ _ _ h => h) (Or.inl ⟨by rfl, ?_⟩) (by assumption) ?_
  rotate_left
  · (intro w hSw; (try dsimp only at hSw); clear hSw; go_simp; try with_reducible rfl)
  simp only [Act.put, List.setIfInBounds_toArray, List.set_cons_zero, List.set_cons_succ]
  refine take_at (i := 7) (v := ?_) (some 30) rfl rfl (by kernel_rfl) (by kernel_rfl) (by kernel_rfl) (fun _ _ _ h => h) (Or.inl ⟨by rfl, ?_⟩) (by assumption) ?_
  rotate_left
  · (intro w hSw; (try dsimp only at hSw); clear hSw; go_simp; try with_reducible rfl)
  simp only [Act.put, List.setIfInBounds_toArray, List.set_cons_zero, List.set_cons_succ]
  refine take_at (i := 8) (v := ?_) (some 31) rfl rfl (by kernel_rfl) (by kernel_rfl) (by kernel_rfl) (fun _ _ _ h => h) (Or.inl ⟨by rfl, ?_⟩) (by assumption) ?_
  rotate_left
  · (intro w hSw; (try dsimp only at hSw); clear hSw; go_simp; try with_reducible rfl)
  simp only [Act.put, List.setIfInBounds_toArray, List.set_cons_zero, List.set_cons_succ]
  refine call_at (i := 9) (some 32) 27 _ _ rfl rfl rfl (by rfl) (by kernel_rfl) #[.int .i64 2, .int .i64 5] rfl Try.func27 (by kernel_rfl) (by kernel_rfl) ?_
  refine (viewed_any _ 2 5).mono ?_; rintro e w' ⟨rfl, hB⟩
  refine ⟨_, rfl, KEEP hHeld hB, fun hHeld => ?_⟩
  simp only [Act.put, List.setIfInBounds_toArray, List.set_cons_zero, List.set_cons_succ]
  refine call_at (i := 10) (some 33) 29 _ _ rfl rfl rfl (by rfl) (by kernel_rfl) #[.pointer (some ⟨d, 0, none⟩), supV (vS 2 5) none 0] rfl Try.func29 (by kernel_rfl) (by kernel_rfl) ?_
  refine (O2.out _ _ _ _ (S7.out.below hHeld.2.out)).mono ?_; rintro e w' ⟨rfl, hB⟩
  refine ⟨_, rfl, KEEP hHeld hB, fun hHeld => ?_⟩
  simp only [Act.put, List.setIfInBounds_toArray, List.set_cons_zero, List.set_cons_succ]
  refine take_at (i := 11) (v := ?_) (some 34) rfl rfl (by kernel_rfl) (by kernel_rfl) (by kernel_rfl) (fun _ _ _ h => h) (Or.inl ⟨by rfl, ?_⟩) (by assumption) ?_
  rotate_left
  · (intro w hSw; (try dsimp only at hSw); clear hSw; go_simp; try with_reducible rfl)
  simp only [Act.put, List.setIfInBounds_toArray, List.set_cons_zero, List.set_cons_succ]
  refine take_at (i := 12) (v := ?_) (some 0) rfl rfl (by kernel_rfl) (by kernel_rfl) (by kernel_rfl) (fun _ _ _ h => h) (Or.inl ⟨by rfl, ?_⟩) (by assumption) ?_
  rotate_left
  · (intro w hSw; (try dsimp only at hSw); clear hSw; go_simp; try with_reducible rfl)
  simp only [Act.put, List.setIfInBounds_toArray, List.set_cons_zero]
  refine wpAnyH_done (by kernel_rfl) ?_ _
  refine NoPanic.normal ?_
  go_wp2_with fail
  go_ret
  exact ⟨rfl, (S7.out.below hHeld.2.out).bel⟩
end Go.Proofs.Ytfapmogjmjlokaa
namespace Go.Proofs.Ytfapmogjmjlokaa
open Go.RowKit Go.Maps
theorem fnd0_len : fnd0.length = 524 := fndC_len _ _ _ _ _
/-- A pointer that is nil, or is to a zero Disk. -/
def NoD (W : World) (p : Option Addr) : Prop := p = none ∨ ∃ z, p = some ⟨z, 0, none⟩ ∧ W.cell? ⟨z, 0, none⟩ = some (.pointer none) ∧ z < W.heap.size
theorem NoD.below {W W' : World} {p : Option Addr} (h : NoD W p) (hB : Below W.heap.size W W') : NoD W' p := by
  rcases h with rfl | ⟨z, rfl, c, l⟩
  · exact .inl rfl
  · exact .inr ⟨z, rfl, (hB.cell (p := ⟨z, 0, none⟩) l).trans c, Nat.lt_of_lt_of_le l hB.size⟩
theorem made_none (W : World) (p : Option Addr) (h : NoD W p) : Calls Try.prog 51 #[.pointer p] W fun e w' => e = .returned (.bool false) ∧ w' = W := by
  rcases h with rfl | ⟨z, rfl, c, _⟩
  · exact made_nil W
  · exact made_no W z c
theorem ready_no (W : World) (p : Option Addr) (h : NoD W p) : Calls Try.prog 52 #[.pointer p] W fun e w' => e = .returned (.int .i64 1) ∧ w' = W := by
  have MD : Hid (Calls Try.prog 51 #[.pointer p] W fun e w' => e = .returned (.bool false) ∧ w' = W) := made_none W p h
  clear h
  go_enter Try.func52, Try.ntmps52
  go_wp2_with (go_at_call 51; refine MD.out.mono ?_; rintro e w1 ⟨rfl, rfl⟩)
  go_ret
  exact ⟨rfl, rfl⟩
theorem read_no (W : World) (p : Option Addr) (x n : Int) (h : NoD W p) : Calls Try.prog 31 #[.pointer p, .int .i64 x, .int .i64 n] W fun e w' => e = .returned (.tuple #[.slice none 0 0, .int .i64 1]) ∧ w' = W := by
  have MD : Hid (Calls Try.prog 52 #[.pointer p] W fun e w' => e = .returned (.int .i64 1) ∧ w' = W) := ready_no W p h
  clear h
  go_enter Try.func31, Try.ntmps31
  go_wp2_with (go_at_call 52; refine MD.out.mono ?_; rintro e w1 ⟨rfl, rfl⟩)
  exact bodyPost_ret (by simp [results, Try.results31, go_sem]) rfl ⟨rfl, rfl⟩
set_option maxRecDepth 100000 in
set_option maxHeartbeats 400000 in
theorem format_no (W : World) (p : Option Addr) (sp : Sup) (a : Option Addr) (C : Nat) (h : NoD W p) : Calls Try.prog 23 #[.pointer p, supV sp a C] W fun e w' => e = .returned (.int .i64 1) ∧ Below W.heap.size W w' := by
  have RC : Hid (∀ u, Below W.heap.size W u → Calls Try.prog 50 #[.pointer p] u fun e w' => e = .returned (.tuple #[.slice none 0 0, .int .i64 1]) ∧ w' = u) := fun u hB => rc_er u p 1 (read_no u p 0 8 (h.below hB))
  clear h
  unfold supV
  go_enter Try.func23, Try.ntmps23
  go_wp2_with (first
    | (refine wpList_box_rec rfl 26 (.tmp 1) rfl (supC sp a C) rfl W.heap.size rfl ?_; intro W0 R0 B0 z0)
    | (go_at_call 50; refine (RC.out _ B0).mono ?_; rintro e w1 ⟨rfl, h1⟩; subst h1))
  go_ret
  exact ⟨rfl, B0⟩
set_option maxRecDepth 100000 in
set_option maxHeartbeats 400000 in
theorem write_no' (W : World) (p : Option Addr) (sp : Sup) (a : Option Addr) (C : Nat) (h : NoD W p) : Calls Try.prog 22 #[.pointer p, supV sp a C] W fun e w' => e = .returned (.tuple #[supV sup0 none 0, .int .i64 1]) ∧ Below W.heap.size W w' := by
  have FN : Hid (∀ u, Below W.heap.size W u → Calls Try.prog 46 #[.pointer p] u fun e w' => e = .returned (.tuple #[.agg fnd0.toArray, .int .i64 1]) ∧ Below u.heap.size u w') := fun u hB => find_er u p 1 (by decide) (fun v hv => read_no v p 0 8 ((h.below hB).below hv))
  clear h
  unfold supV
  have K1 : Hid True := trivial
  go_enter Try.func22, Try.ntmps22
  go_wp2_with (first
    | (refine wpList_box_rec rfl 26 (.tmp 1) rfl (supC sp a C) rfl W.heap.size rfl ?_; intro W0 R0 B0 z0)
    | (have _q := K1; clear K1; refine wpList_alloc_rec rfl 26 rfl (supC sup0 none 0) (W.heap.size + 1) z0 zero_super ?_; intro W1 R1 B1 z1
       have E1 : Below W.heap.size W W1 := B0.trans (B1.mono (by omega))
       clear R0 B0 B1)
    | (go_at_call 46; refine (FN.out _ E1).mono ?_; rintro e w2 ⟨rfl, B2⟩
       have E2 : Below W.heap.size W w2 := E1.trans (B2.mono E1.size)
       have R2 := R1.below B2
       clear R1 B2 E1)
    | (refine wpList_alloc_rec rfl 87 rfl fnd0 w2.heap.size rfl zero_found ?_; intro W3 R3 B3 z3)
    | (refine wpList_store_rec rfl 87 (.tmp 6) (.tmp 16) rfl w2.heap.size 0 fnd0 fnd0 rfl rfl R3 rfl (by rw [fnd0_len]; exact info_found) (fndC_one _ _ _ _ _ rfl) ?_; intro W4 R4 B4
       have E24 : Below w2.heap.size w2 W4 := B3.trans (B4.below (Nat.le_refl _) (by omega))
       have E4 : Below W.heap.size W W4 := E2.trans (E24.mono E2.size)
       have R4' := R2.below E24
       clear R2 R3 B3 R4 B4 E24)
    | (refine wpList_build_to rfl 26 _ rfl (supC sup0 none 0).toArray (by kernel_rfl) ?_)
    | (refine wpList_store_rec rfl 26 (.tmp 4) (.tmp 20) rfl (W.heap.size + 1) 0 _ (supC sup0 none 0) rfl rfl R4' rfl (by kernel_rfl) (supC_one _ _ _) ?_; intro W9 R9 B9))
  have hl := R9.run_load 26 _ Try.underlying26 rfl (by kernel_rfl)
  exact bodyPost_ret (v := .tuple #[supV sup0 none 0, .int .i64 1]) (by simp [results, Try.results22, asAddr, supV, hl]) rfl ⟨rfl, E4.trans (B9.below (by omega) E4.size)⟩
set_option maxRecDepth 100000 in
set_option maxHeartbeats 600000 in
theorem copy_superN (W : World) (sp : Sup) (a : Option Addr) (C : Nat) (hA : HArg W a sp.k sp.h) (hk : sp.k * 16 ≤ 140737488355328) : Calls Try.prog 9 #[supV sp a C] W fun e w' => ∃ a' C', e = .returned (supV sp a' C') ∧ HArg w' a' sp.k sp.h ∧ sp.k ≤ C' ∧ Below W.heap.size W w' ∧ (0 < sp.k → ∃ r, a' = some ⟨r, 0, none⟩ ∧ W.heap.size ≤ r) := by
  have HA : Hid (HArg W a sp.k sp.h ∧ sp.k * 16 ≤ 140737488355328) := ⟨hA, hk⟩
  clear hA hk
  unfold supV
  go_enter Try.func9, Try.ntmps9
  go_wp2_with (first
    | (refine wpList_box_rec rfl 26 (.tmp 0) rfl (supC sp a C) rfl W.heap.size rfl ?_; intro W0 R0 B0 z0)
    | (refine wpList_alloc_rec rfl 26 rfl (supC sup0 none 0) (W.heap.size + 1) z0 zero_super ?_; intro W1 R1 B1 z1
       have E1 : Below W.heap.size W W1 := B0.trans (B1.mono (by omega))
       have R0a := R0.below (B1.mono (by omega))
       obtain ⟨c10, f10⟩ := R0a.cel 10 _ rfl
       have hown : OwnI (W1.alloc (.cells #[] 75)) W1.heap.size 75 2 (.slice (some ⟨W1.heap.size, 0, none⟩) 0 0) 0 sp.h := OwnI.lit W1 W1.heap.size 75 2 0 sp.h (Nat.le_refl _) (by decide)
       have BA : Below W1.heap.size W1 (W1.alloc (.cells #[] 75)) := (Below.refl _ _).alloc (Nat.le_refl _) _
       obtain ⟨a', C', W2, hr2, hA2, hC2, hB2, hn2, hz2⟩ := heads_app (C := C) hown ((HA.out.1.below E1).below BA) HA.out.2 BA.size
       have BB : Below W1.heap.size W1 W2 := BA.trans hB2
       rw [z1] at hr2
       have RA := R0a.below BB
       have HB := R1.below BB
       obtain ⟨d10, e10⟩ := RA.cel 10 _ rfl
       obtain ⟨W3, hW3⟩ : ∃ W3, W2.setCell ⟨W.heap.size, 10, none⟩ (.slice a' sp.k C') = W3 := ⟨_, rfl⟩
       have R3 : Rec19 W3 W.heap.size 0 (supC sp a' C') := by rw [← hW3]; exact RA.put 10 _
       have U3 : But W.heap.size W2 W3 := by rw [← hW3]; exact But.set _ _ _
       have H3 := HB.but U3 (by omega)
       have PP : Hid (∀ W4, But (W.heap.size + 1) W3 W4 → HArg W4 a' sp.k sp.h ∧ sp.k ≤ C' ∧ Below W.heap.size W W4 ∧ (0 < sp.k → ∃ r, a' = some ⟨r, 0, none⟩ ∧ W.heap.size ≤ r)) := by
         intro W4 U4
         refine ⟨?_, hC2, ?_, fun k0 => by obtain ⟨r, e, hr⟩ := hn2 k0; exact ⟨r, e, Nat.le_trans E1.size hr⟩⟩
         · by_cases k0 : 0 < sp.k
           · obtain ⟨r, rfl, hr⟩ := hn2 k0
             have a3 : HArg W3 (some ⟨r, 0, none⟩) sp.k sp.h := hA2.off (Off.but (bs := [W.heap.size]) U3 (by simp)) (fun y hy => by injection hy with hy; subst hy; simp; omega)
             exact a3.off (Off.but (bs := [W.heap.size + 1]) U4 (by simp)) (fun y hy => by injection hy with hy; subst hy; simp; omega)
           · exact .inl (by omega)
         · have s1 := E1.size
           have s2 := BB.size
           exact ((E1.trans (BB.mono s1)).trans (U3.below (Nat.le_refl _) (by omega))).trans (U4.below (by omega) (by have := U3.size; omega))
       clear R0 B0 B1 hown BA hA2 hC2 hB2 hn2 hz2 BB RA HB U3 R0a)
    | (at_builtin; refine wpList_append_go rfl (.tmp 3) (.tmp 5) 24 24 rfl _ _ rfl rfl hr2 ?_)
    | (refine wpList_load_rec rfl 26 (.tmp 1) rfl W.heap.size 0 (supC sp a' C') rfl _ Try.underlying26 rfl (by kernel_rfl) R3 ?_)
    | (refine wpList_store_rec rfl 26 (.tmp 2) (.tmp 8) rfl (W.heap.size + 1) 0 _ (supC sp a' C') rfl rfl H3 rfl (by kernel_rfl) (supC_one _ _ _) ?_; intro W4 R4 B4))
  have hl := R4.run_load 26 _ Try.underlying26 rfl (by kernel_rfl)
  exact bodyPost_ret (v := supV sp a' C') (by simp [results, Try.results9, asAddr, supV, Act.put, hl]) rfl ⟨a', C', rfl, PP.out _ B4⟩
theorem copy_super (W : World) (sp : Sup) (a : Option Addr) (C : Nat) (hA : HArg W a sp.k sp.h) (hk : sp.k * 16 ≤ 140737488355328) : Calls Try.prog 9 #[supV sp a C] W fun e w' => ∃ a' C', e = .returned (supV sp a' C') ∧ HArg w' a' sp.k sp.h ∧ sp.k ≤ C' ∧ Below W.heap.size W w' :=
  (copy_superN W sp a C hA hk).mono fun _ _ ⟨a', C', h1, h2, h3, h4, _⟩ => ⟨a', C', h1, h2, h3, h4⟩
end Go.Proofs.Ytfapmogjmjlokaa
