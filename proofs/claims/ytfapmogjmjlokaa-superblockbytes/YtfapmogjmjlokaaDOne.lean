
/-
  Notions and walks, not a claim by itself: a disk in memory; made, blown, Up, ready, has, pass, Ops, Sectors. By the verifier.
-/
import Derived.Test.YtfapmogjmjlokaaDBase
import Derived.LaidEql
namespace Go.Proofs.Ytfapmogjmjlokaa
open Go.RowKit Go.Maps
theorem keys_perm {W : World} {m n N : Nat} {D : DataW Value} {lo : Nat → Bool} {ob : Nat → Int} (h : W.ownsMap Try.prog 3 heldR m n D) (k : OldIs D N lo ob) : (looseL N lo).Perm (intKeys D) := by
  refine CollectedI.perm (left := fun _ => false) ⟨looseL_nodup N lo, fun x => ?_⟩ h keyed_int Try.underlying3 (fun _ => rfl)
  rw [looseL_mem]
  constructor
  · rintro ⟨i, rfl, hi, hl⟩
    exact ⟨(k.iff i hi).trans hl, rfl⟩
  · rintro ⟨hh, _⟩
    obtain ⟨i, rfl, hi⟩ := k.only x hh
    exact ⟨i, rfl, hi, (k.iff i hi).symm.trans hh⟩
theorem keys_size {W : World} {m n N : Nat} {D : DataW Value} {lo : Nat → Bool} {ob : Nat → Int} (h : W.ownsMap Try.prog 3 heldR m n D) (k : OldIs D N lo ob) : Maps.size D = (looseL N lo).length := by
  rw [(keys_perm h k).length_eq]
  obtain ⟨es, rfl⟩ := k.map
  simp [Maps.size, intKeys]
theorem MapOk.tight {W : World} {m N : Nat} {lo : Nat → Bool} {ob : Nat → Int} (h : MapOk W m N lo ob) : ∃ D, W.ownsMap Try.prog 3 heldR m N D ∧ OldIs D N lo ob := by
  obtain ⟨D, n, h, k⟩ := h
  have e := keys_size h k
  have l := looseL_len N lo
  obtain ⟨es, clock, hb, F, hs, hD⟩ := h
  have hz : es.size = Maps.size D := by rw [hD]; simp [Maps.size, length_sorted]
  exact ⟨D, ⟨es, clock, hb, F, by omega, hD⟩, k⟩
/-- A disk: how many sectors, their bytes, which are loose, their old bytes, how many changes, its fuse, whether it is out. -/
structure Dsk where
  N : Nat
  sec : Nat → Int
  lo : Nat → Bool
  ob : Nat → Int
  ops : Int
  fz : Option Nat
  out : Bool
  C : Nat
/-- A fuse as Go has it. -/
def fzV : Option Nat → Value
  | none => .pointer none
  | some q => .pointer (some ⟨q, 0, none⟩)
theorem fzV_one (fz : Option Nat) : (fzV fz).oneCell' = true := by cases fz <;> rfl
/-- The six cells of a disk. -/
def dcells (d s m : Nat) (D : Dsk) : List Value := [.pointer (some ⟨d, 0, none⟩), .slice (some ⟨s, 0, none⟩) D.N D.C, .map (some m), .int .i64 D.ops, fzV D.fz, .bool D.out]
/-- A disk that New or Clone made lies at block d. -/
structure DiskAt (W : World) (d s m : Nat) (D : Dsk) : Prop where
  recd : Rec19 W d 0 (dcells d s m D)
  row : IRow W s .u8 (D.N * 256) D.sec
  map : MapOk W m D.N D.lo D.ob
  sb : ∀ j, j < D.N * 256 → 0 ≤ D.sec j ∧ D.sec j < 256
  obb : ∀ n j, n < D.N → D.lo n = true → j < 256 → 0 ≤ at256 D.ob n j ∧ at256 D.ob n j < 256
  n1 : 1 ≤ D.N
  n2 : D.N ≤ 65536
  ds : d ≠ s
  dm : d ≠ m
  sm : s ≠ m
theorem DiskAt.off {W W' : World} {bs : List Nat} {d s m : Nat} {D : Dsk} (h : DiskAt W d s m D) (hB : Off bs W W') (h1 : d ∉ bs) (h2 : s ∉ bs) (h3 : m ∉ bs) : DiskAt W' d s m D :=
  { h with recd := h.recd.off hB h1, row := h.row.off hB h2, map := h.map.off hB h3 }
theorem DiskAt.below {W W' : World} {d s m : Nat} {D : Dsk} (h : DiskAt W d s m D) (hB : Below W.heap.size W W') : DiskAt W' d s m D := h.off (bs := []) (Off.of hB) (by simp) (by simp) (by simp)
theorem DiskAt.drew {W : World} {d s m : Nat} {D : Dsk} (h : DiskAt W d s m D) : DiskAt W.drew d s m D := h.below (Below.refl _ _).drew
theorem DiskAt.alloc {W : World} {d s m : Nat} {D : Dsk} (h : DiskAt W d s m D) (o : Obj) : DiskAt (W.alloc o) d s m D := h.below ((Below.refl _ _).alloc (Nat.le_refl _) _)
theorem DiskAt.dl {W : World} {d s m : Nat} {D : Dsk} (h : DiskAt W d s m D) : d < W.heap.size := h.recd.2.2
theorem DiskAt.sl {W : World} {d s m : Nat} {D : Dsk} (h : DiskAt W d s m D) : s < W.heap.size := h.row.2.2
theorem DiskAt.ml {W : World} {d s m : Nat} {D : Dsk} (h : DiskAt W d s m D) : m < W.heap.size := h.map.lt
/-- The fuse that some disks share: how many changes are left, whether it is out. -/
def FuseIs (W : World) : Option Nat → Int → Bool → Prop
  | none, _, o => o = false
  | some q, l, o => Rec19 W q 0 [.int .i64 l, .bool o] ∧ 0 ≤ l ∧ l < 9223372036854775808
theorem FuseIs.off {W W' : World} {bs : List Nat} {fz : Option Nat} {l : Int} {o : Bool} (h : FuseIs W fz l o) (hB : Off bs W W') (hn : ∀ q, fz = some q → q ∉ bs) : FuseIs W' fz l o := by
  cases fz with
  | none => exact h
  | some q => exact ⟨h.1.off hB (hn q rfl), h.2⟩
theorem FuseIs.below {W W' : World} {fz : Option Nat} {l : Int} {o : Bool} (h : FuseIs W fz l o) (hB : Below W.heap.size W W') : FuseIs W' fz l o := h.off (bs := []) (Off.of hB) (fun _ _ => by simp)
theorem eqi_ptr (d : Nat) (a : Addr) (w : World) : (Op.equalIn (d + 1) 42 (.pointer (some a)) (.pointer (some a))).run Try.prog w = .ok true w := by
  simp [Op.equalIn, run_underlying Try.underlying42, run_sameAddr_same]
theorem eql_ptr (a : Addr) (w : World) : (binOp .eql 42 (.pointer (some a)) (.pointer (some a))).run Try.prog w = .ok (.bool true) w := by
  have h : (Op.equal 42 (.pointer (some a)) (.pointer (some a))).run Try.prog w = .ok true w := eqi_ptr 9999 a w
  simp only [binOp]
  simp [h]
theorem eqi_nil (d : Nat) (a : Addr) (w : World) : (Op.equalIn (d + 1) 42 (.pointer none) (.pointer (some a))).run Try.prog w = .ok false w := by
  simp [Op.equalIn, run_underlying Try.underlying42]
theorem eql_nil (a : Addr) (w : World) : (binOp .eql 42 (.pointer none) (.pointer (some a))).run Try.prog w = .ok (.bool false) w := by
  have h : (Op.equal 42 (.pointer none) (.pointer (some a))).run Try.prog w = .ok false w := eqi_nil 9999 a w
  simp only [binOp]
  simp [h]
set_option maxRecDepth 100000 in
theorem made_ok (W : World) (d s m : Nat) (D : Dsk) (h : DiskAt W d s m D) : Calls Try.prog 51 #[.pointer (some ⟨d, 0, none⟩)] W fun e w' => e = .returned (.bool true) ∧ w' = W := by
  obtain ⟨c0, _⟩ := h.recd.cel 0 _ rfl
  have hp := eql_ptr ⟨d, 0, none⟩
  clear h
  go_enter Try.func51, Try.ntmps51
  go_wp2_with fail
  go_ret
  exact ⟨rfl, rfl⟩
theorem made_nil (W : World) : Calls Try.prog 51 #[.pointer none] W fun e w' => e = .returned (.bool false) ∧ w' = W := by
  go_enter Try.func51, Try.ntmps51
  go_wp2_with fail
  go_ret
  exact ⟨rfl, rfl⟩
set_option maxRecDepth 100000 in
theorem made_no (W : World) (d : Nat) (c0 : W.cell? ⟨d, 0, none⟩ = some (.pointer none)) : Calls Try.prog 51 #[.pointer (some ⟨d, 0, none⟩)] W fun e w' => e = .returned (.bool false) ∧ w' = W := by
  have hp := eql_nil ⟨d, 0, none⟩
  go_enter Try.func51, Try.ntmps51
  go_wp2_with fail
  go_ret
  exact ⟨rfl, rfl⟩
theorem blown_any (W : World) (fz : Option Nat) (l : Int) (o : Bool) (h : FuseIs W fz l o) : Calls Try.prog 83 #[fzV fz] W fun e w' => e = .returned (.bool o) ∧ w' = W := by
  cases fz with
  | none =>
    obtain rfl : o = false := h
    unfold fzV
    go_enter Try.func83, Try.ntmps83
    go_wp2_with fail
    go_ret
    exact ⟨rfl, rfl⟩
  | some q =>
    obtain ⟨c1, _⟩ := h.1.cel 1 _ rfl
    clear h
    unfold fzV
    go_enter Try.func83, Try.ntmps83
    go_wp2_with fail
    go_ret
    exact ⟨rfl, rfl⟩
/-- Whether a disk is up. -/
def Dsk.up (D : Dsk) (o : Bool) : Bool := !D.out && !o
theorem up_ok (W : World) (d s m : Nat) (D : Dsk) (l : Int) (o : Bool) (h : DiskAt W d s m D) (hf : FuseIs W D.fz l o) : Calls Try.prog 66 #[.pointer (some ⟨d, 0, none⟩)] W fun e w' => e = .returned (.bool (D.up o)) ∧ w' = W := by
  obtain ⟨c4, _⟩ := h.recd.cel 4 _ rfl
  obtain ⟨c5, _⟩ := h.recd.cel 5 _ rfl
  have HD : Hid (DiskAt W d s m D) := h
  have HF : Hid (FuseIs W D.fz l o) := hf
  have U : D.up o = (!D.out && !o) := rfl
  rw [U]
  clear U
  clear h hf
  generalize hz : D.fz = fz at c4 HF
  clear hz
  generalize D.out = b at c5
  cases b with
  | true =>
    go_enter Try.func66, Try.ntmps66
    go_wp2_with (go_at_call 51; refine (made_ok _ d s m D HD.out).mono ?_; rintro e w1 ⟨rfl, rfl⟩)
    go_ret
    exact ⟨rfl, rfl⟩
  | false =>
    go_enter Try.func66, Try.ntmps66
    go_wp2_with (first
      | (go_at_call 51; refine (made_ok _ d s m D HD.out).mono ?_; rintro e w1 ⟨rfl, rfl⟩)
      | (go_at_call 83; refine (blown_any _ fz l o HF.out).mono ?_; rintro e w1 ⟨rfl, rfl⟩))
    go_ret
    exact ⟨rfl, rfl⟩
theorem ready_ok (W : World) (d s m : Nat) (D : Dsk) (l : Int) (o : Bool) (h : DiskAt W d s m D) (hf : FuseIs W D.fz l o) : Calls Try.prog 52 #[.pointer (some ⟨d, 0, none⟩)] W fun e w' => e = .returned (.int .i64 (if D.up o = true then 0 else 11)) ∧ w' = W := by
  have HD : Hid (DiskAt W d s m D) := h
  have HF : Hid (FuseIs W D.fz l o) := hf
  clear h hf
  obtain ⟨b, hb⟩ : ∃ b, D.up o = b := ⟨_, rfl⟩
  have HB : Hid (D.up o = b) := hb
  rw [hb]
  clear hb
  cases b with
  | true =>
    rw [if_pos rfl]
    go_enter Try.func52, Try.ntmps52
    go_wp2_with (first
      | (go_at_call 51; refine (made_ok _ d s m D HD.out).mono ?_; rintro e w1 ⟨rfl, rfl⟩)
      | (go_at_call 66; refine (up_ok _ d s m D l o HD.out HF.out).mono ?_; rintro e w1 ⟨rfl, rfl⟩; rw [HB.out]))
    go_ret
    exact ⟨rfl, rfl⟩
  | false =>
    rw [if_neg (by simp)]
    go_enter Try.func52, Try.ntmps52
    go_wp2_with (first
      | (go_at_call 51; refine (made_ok _ d s m D HD.out).mono ?_; rintro e w1 ⟨rfl, rfl⟩)
      | (go_at_call 66; refine (up_ok _ d s m D l o HD.out HF.out).mono ?_; rintro e w1 ⟨rfl, rfl⟩; rw [HB.out]))
    go_ret
    exact ⟨rfl, rfl⟩
/-- Whether n sectors from x on are there. -/
def hasB (N : Nat) (x n : Int) : Bool := decide (0 ≤ x) && decide (0 ≤ n) && decide (n ≤ (N : Int) - x)
theorem has_ok (W : World) (d s m : Nat) (D : Dsk) (x n : Int) (h : DiskAt W d s m D) (hx : x < 9223372036854775808) : Calls Try.prog 53 #[.pointer (some ⟨d, 0, none⟩), .int .i64 x, .int .i64 n] W fun e w' => e = .returned (.bool (hasB D.N x n)) ∧ w' = W := by
  obtain ⟨c1, _⟩ := h.recd.cel 1 _ rfl
  have h2 := h.n2
  clear h
  unfold hasB
  by_cases a : 0 ≤ x
  · have w1 : wrap64 ((D.N : Int) - x) = (D.N : Int) - x := by unfold wrap64; omega
    have w2 : IntKind.i64.wrap ((D.N : Int) - x) = (D.N : Int) - x := by rw [IntKind.wrap_i64]; omega
    by_cases b : 0 ≤ n
    · rw [decide_eq_true a, decide_eq_true b]
      go_enter Try.func53, Try.ntmps53
      go_wp2_with fail
      go_ret
      exact ⟨by simp, rfl⟩
    · rw [decide_eq_true a, decide_eq_false b]
      go_enter Try.func53, Try.ntmps53
      go_wp2_with fail
      go_ret
      exact ⟨rfl, rfl⟩
  · rw [decide_eq_false a]
    go_enter Try.func53, Try.ntmps53
    go_wp2_with fail
    go_ret
    exact ⟨rfl, rfl⟩
/-- Whether a fuse lets a change by, and what it is then. -/
def fzPass (fz : Option Nat) (l : Int) : Bool := fz.isNone || !decide (l = 0)
def fzLeft (fz : Option Nat) (l : Int) : Int := if fz.isSome = true ∧ ¬ l = 0 then l - 1 else l
def fzOut (fz : Option Nat) (l : Int) (o : Bool) : Bool := if fz.isSome = true ∧ l = 0 then true else o
theorem pass_any (W : World) (fz : Option Nat) (l : Int) (o : Bool) (h : FuseIs W fz l o) : Calls Try.prog 88 #[fzV fz] W fun e w' => e = .returned (.bool (fzPass fz l)) ∧ FuseIs w' fz (fzLeft fz l) (fzOut fz l o) ∧ Off fz.toList W w' := by
  cases fz with
  | none =>
    have HF : Hid (FuseIs W none l o) := h
    clear h
    unfold fzV
    go_enter Try.func88, Try.ntmps88
    go_wp2_with fail
    go_ret
    exact ⟨rfl, HF.out, Off.refl _ _⟩
  | some q =>
    obtain ⟨c0, f0⟩ := h.1.cel 0 _ rfl
    obtain ⟨c1, f1⟩ := h.1.cel 1 _ rfl
    have HF : Hid (FuseIs W (some q) l o) := h
    have b0 := h.2.1
    have b1 := h.2.2
    clear h
    by_cases z : l = 0
    · subst z
      unfold fzV
      go_enter Try.func88, Try.ntmps88
      go_wp2_with fail
      go_ret
      exact ⟨rfl, ⟨HF.out.1.put 1 (.bool true), HF.out.2⟩, Off.set _ _ _ (by simp)⟩
    · have e1 : fzPass (some q) l = true := by simp [fzPass, z]
      have e2 : fzLeft (some q) l = l - 1 := by simp [fzLeft, z]
      have e3 : fzOut (some q) l o = o := by simp [fzOut, z]
      rw [e1, e2, e3]
      have w1 : wrap64 (l - 1) = l - 1 := by unfold wrap64; omega
      have w2 : IntKind.i64.wrap (l - 1) = l - 1 := by rw [IntKind.wrap_i64]; omega
      clear e1 e2 e3
      unfold fzV
      go_enter Try.func88, Try.ntmps88
      go_wp2_with fail
      go_ret
      exact ⟨rfl, ⟨HF.out.1.put 0 (.int .i64 (l - 1)), by omega, by omega⟩, Off.set _ _ _ (by simp)⟩
end Go.Proofs.Ytfapmogjmjlokaa
