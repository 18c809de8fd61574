
/-
  Walks, not a claim by itself: a nil Journal and a zero Journal; journals of no disk. By the verifier.
-/
import Derived.Test.YtijpoipcadhchaaDoorDBase
import Derived.LaidEql
import Derived.Carry
import Derived.Test.YtijpoipcadhchaaDoorDChunk
import Derived.Laws.Cover3
import Derived.Test.YtijpoipcadhchaaDoorDReg
import Derived.Test.YtijpoipcadhchaaDoorJCl
import Derived.Test.YtijpoipcadhchaaDoorOJd2
import Derived.Laws.MakeOwn
import Derived.Great.BuildSlice
import Derived.Test.YtijpoipcadhchaaDoorMSeal
namespace Go.Proofs.YtijpoipcadhchaaDoor
open Go.RowKit Go.Maps
theorem keys_perm {W : World} {m n N : Nat} {D : DataW Value} {lo : Nat → Bool} {ob : Nat → Int} (h : W.ownsMap Tryd.prog 3 heldR m n D) (k : OldIs D N lo ob) : (looseL N lo).Perm (intKeys D) := by
  refine CollectedI.perm (left := fun _ => false) ⟨looseL_nodup N lo, fun x => ?_⟩ h keyed_int Tryd.underlying3 (fun _ => rfl)
  rw [looseL_mem]
  constructor
  · rintro ⟨i, rfl, hi, hl⟩
    exact ⟨(k.iff i hi).trans hl, rfl⟩
  · rintro ⟨hh, _⟩
    obtain ⟨i, rfl, hi⟩ := k.only x hh
    exact ⟨i, rfl, hi, (k.iff i hi).symm.trans hh⟩
theorem keys_size {W : World} {m n N : Nat} {D : DataW Value} {lo : Nat → Bool} {ob : Nat → Int} (h : W.ownsMap Tryd.prog 3 heldR m n D) (k : OldIs D N lo ob) : Maps.size D = (looseL N lo).length := by
  rw [(keys_perm h k).length_eq]
  obtain ⟨es, rfl⟩ := k.map
  simp [Maps.size, intKeys]
theorem MapOk.tight {W : World} {m N : Nat} {lo : Nat → Bool} {ob : Nat → Int} (h : MapOk W m N lo ob) : ∃ D, W.ownsMap Tryd.prog 3 heldR m N D ∧ OldIs D N lo ob := by
  obtain ⟨D, n, h, k⟩ := h
  have e := keys_size h k
  have l := looseL_len N lo
  obtain ⟨es, clock, hb, F, hs, hD⟩ := h
  have hz : es.size = Maps.size D := by rw [hD]; simp [Maps.size, length_sorted]
  exact ⟨D, ⟨es, clock, hb, F, by omega, hD⟩, k⟩
/-- A disk: how many sectors, their bytes, which are loose, their old bytes, how many changes, its fuse, whether it is out. -/
structure Dsk where
  N : Nat
  sec : Nat → Int
  lo : Nat → Bool
  ob : Nat → Int
  ops : Int
  fz : Option Nat
  out : Bool
  C : Nat
/-- A fuse as Go has it. -/
def fzV : Option Nat → Value
  | none => .pointer none
  | some q => .pointer (some ⟨q, 0, none⟩)
theorem fzV_one (fz : Option Nat) : (fzV fz).oneCell' = true := by cases fz <;> rfl
/-- The six cells of a disk. -/
def dcells (d s m : Nat) (D : Dsk) : List Value := [.pointer (some ⟨d, 0, none⟩), .slice (some ⟨s, 0, none⟩) D.N D.C, .map (some m), .int .i64 D.ops, fzV D.fz, .bool D.out]
/-- A disk that New or Clone made lies at block d. -/
structure DiskAt (W : World) (d s m : Nat) (D : Dsk) : Prop where
  recd : Rec19 W d 0 (dcells d s m D)
  row : IRow W s .u8 (D.N * 256) D.sec
  map : MapOk W m D.N D.lo D.ob
  sb : ∀ j, j < D.N * 256 → 0 ≤ D.sec j ∧ D.sec j < 256
  obb : ∀ n j, n < D.N → D.lo n = true → j < 256 → 0 ≤ at256 D.ob n j ∧ at256 D.ob n j < 256
  n1 : 1 ≤ D.N
  n2 : D.N ≤ 65536
  ds : d ≠ s
  dm : d ≠ m
  sm : s ≠ m
theorem DiskAt.off {W W' : World} {bs : List Nat} {d s m : Nat} {D : Dsk} (h : DiskAt W d s m D) (hB : Off bs W W') (h1 : d ∉ bs) (h2 : s ∉ bs) (h3 : m ∉ bs) : DiskAt W' d s m D :=
  { h with recd := h.recd.off hB h1, row := h.row.off hB h2, map := h.map.off hB h3 }
theorem DiskAt.below {W W' : World} {d s m : Nat} {D : Dsk} (h : DiskAt W d s m D) (hB : Below W.heap.size W W') : DiskAt W' d s m D := h.off (bs := []) (Off.of hB) (by simp) (by simp) (by simp)
theorem DiskAt.drew {W : World} {d s m : Nat} {D : Dsk} (h : DiskAt W d s m D) : DiskAt W.drew d s m D := h.below (Below.refl _ _).drew
theorem DiskAt.alloc {W : World} {d s m : Nat} {D : Dsk} (h : DiskAt W d s m D) (o : Obj) : DiskAt (W.alloc o) d s m D := h.below ((Below.refl _ _).alloc (Nat.le_refl _) _)
theorem DiskAt.dl {W : World} {d s m : Nat} {D : Dsk} (h : DiskAt W d s m D) : d < W.heap.size := h.recd.2.2
theorem DiskAt.sl {W : World} {d s m : Nat} {D : Dsk} (h : DiskAt W d s m D) : s < W.heap.size := h.row.2.2
theorem DiskAt.ml {W : World} {d s m : Nat} {D : Dsk} (h : DiskAt W d s m D) : m < W.heap.size := h.map.lt
/-- The fuse that some disks share: how many changes are left, whether it is out. -/
def FuseIs (W : World) : Option Nat → Int → Bool → Prop
  | none, _, o => o = false
  | some q, l, o => Rec19 W q 0 [.int .i64 l, .bool o] ∧ 0 ≤ l ∧ l < 9223372036854775808
theorem FuseIs.off {W W' : World} {bs : List Nat} {fz : Option Nat} {l : Int} {o : Bool} (h : FuseIs W fz l o) (hB : Off bs W W') (hn : ∀ q, fz = some q → q ∉ bs) : FuseIs W' fz l o := by
  cases fz with
  | none => exact h
  | some q => exact ⟨h.1.off hB (hn q rfl), h.2⟩
theorem FuseIs.below {W W' : World} {fz : Option Nat} {l : Int} {o : Bool} (h : FuseIs W fz l o) (hB : Below W.heap.size W W') : FuseIs W' fz l o := h.off (bs := []) (Off.of hB) (fun _ _ => by simp)
theorem eqi_ptr (d : Nat) (a : Addr) (w : World) : (Op.equalIn (d + 1) 32 (.pointer (some a)) (.pointer (some a))).run Tryd.prog w = .ok true w := by
  simp [Op.equalIn, run_underlying Tryd.underlying32, run_sameAddr_same]
theorem eql_ptr (a : Addr) (w : World) : (binOp .eql 32 (.pointer (some a)) (.pointer (some a))).run Tryd.prog w = .ok (.bool true) w := by
  have h : (Op.equal 32 (.pointer (some a)) (.pointer (some a))).run Tryd.prog w = .ok true w := eqi_ptr 9999 a w
  simp only [binOp]
  simp [h]
theorem eqi_nil (d : Nat) (a : Addr) (w : World) : (Op.equalIn (d + 1) 32 (.pointer none) (.pointer (some a))).run Tryd.prog w = .ok false w := by
  simp [Op.equalIn, run_underlying Tryd.underlying32]
theorem eql_nil (a : Addr) (w : World) : (binOp .eql 32 (.pointer none) (.pointer (some a))).run Tryd.prog w = .ok (.bool false) w := by
  have h : (Op.equal 32 (.pointer none) (.pointer (some a))).run Tryd.prog w = .ok false w := eqi_nil 9999 a w
  simp only [binOp]
  simp [h]
set_option maxRecDepth 100000 in
theorem made_ok (W : World) (d s m : Nat) (D : Dsk) (h : DiskAt W d s m D) : Calls Tryd.prog 40 #[.pointer (some ⟨d, 0, none⟩)] W fun e w' => e = .returned (.bool true) ∧ w' = W := by
  obtain ⟨c0, _⟩ := h.recd.cel 0 _ rfl
  have hp := eql_ptr ⟨d, 0, none⟩
  clear h
  go_enter Tryd.func40, Tryd.ntmps40
  go_wp2_with fail
  go_ret
  exact ⟨rfl, rfl⟩
theorem made_nil (W : World) : Calls Tryd.prog 40 #[.pointer none] W fun e w' => e = .returned (.bool false) ∧ w' = W := by
  go_enter Tryd.func40, Tryd.ntmps40
  go_wp2_with fail
  go_ret
  exact ⟨rfl, rfl⟩
set_option maxRecDepth 100000 in
theorem made_no (W : World) (d : Nat) (c0 : W.cell? ⟨d, 0, none⟩ = some (.pointer none)) : Calls Tryd.prog 40 #[.pointer (some ⟨d, 0, none⟩)] W fun e w' => e = .returned (.bool false) ∧ w' = W := by
  have hp := eql_nil ⟨d, 0, none⟩
  go_enter Tryd.func40, Tryd.ntmps40
  go_wp2_with fail
  go_ret
  exact ⟨rfl, rfl⟩
theorem blown_any (W : World) (fz : Option Nat) (l : Int) (o : Bool) (h : FuseIs W fz l o) : Calls Tryd.prog 60 #[fzV fz] W fun e w' => e = .returned (.bool o) ∧ w' = W := by
  cases fz with
  | none =>
    obtain rfl : o = false := h
    unfold fzV
    go_enter Tryd.func60, Tryd.ntmps60
    go_wp2_with fail
    go_ret
    exact ⟨rfl, rfl⟩
  | some q =>
    obtain ⟨c1, _⟩ := h.1.cel 1 _ rfl
    clear h
    unfold fzV
    go_enter Tryd.func60, Tryd.ntmps60
    go_wp2_with fail
    go_ret
    exact ⟨rfl, rfl⟩
/-- Whether a disk is up. -/
def Dsk.up (D : Dsk) (o : Bool) : Bool := !D.out && !o
theorem up_ok (W : World) (d s m : Nat) (D : Dsk) (l : Int) (o : Bool) (h : DiskAt W d s m D) (hf : FuseIs W D.fz l o) : Calls Tryd.prog 41 #[.pointer (some ⟨d, 0, none⟩)] W fun e w' => e = .returned (.bool (D.up o)) ∧ w' = W := by
  obtain ⟨c4, _⟩ := h.recd.cel 4 _ rfl
  obtain ⟨c5, _⟩ := h.recd.cel 5 _ rfl
  have HD : Hid (DiskAt W d s m D) := h
  have HF : Hid (FuseIs W D.fz l o) := hf
  have U : D.up o = (!D.out && !o) := rfl
  rw [U]
  clear U
  clear h hf
  generalize hz : D.fz = fz at c4 HF
  clear hz
  generalize D.out = b at c5
  cases b with
  | true =>
    go_enter Tryd.func41, Tryd.ntmps41
    go_wp2_with (go_at_call 40; refine (made_ok _ d s m D HD.out).mono ?_; rintro e w1 ⟨rfl, rfl⟩)
    go_ret
    exact ⟨rfl, rfl⟩
  | false =>
    go_enter Tryd.func41, Tryd.ntmps41
    go_wp2_with (first
      | (go_at_call 40; refine (made_ok _ d s m D HD.out).mono ?_; rintro e w1 ⟨rfl, rfl⟩)
      | (go_at_call 60; refine (blown_any _ fz l o HF.out).mono ?_; rintro e w1 ⟨rfl, rfl⟩))
    go_ret
    exact ⟨rfl, rfl⟩
theorem ready_ok (W : World) (d s m : Nat) (D : Dsk) (l : Int) (o : Bool) (h : DiskAt W d s m D) (hf : FuseIs W D.fz l o) : Calls Tryd.prog 51 #[.pointer (some ⟨d, 0, none⟩)] W fun e w' => e = .returned (.int .i64 (if D.up o = true then 0 else 11)) ∧ w' = W := by
  have HD : Hid (DiskAt W d s m D) := h
  have HF : Hid (FuseIs W D.fz l o) := hf
  clear h hf
  obtain ⟨b, hb⟩ : ∃ b, D.up o = b := ⟨_, rfl⟩
  have HB : Hid (D.up o = b) := hb
  rw [hb]
  clear hb
  cases b with
  | true =>
    rw [if_pos rfl]
    go_enter Tryd.func51, Tryd.ntmps51
    go_wp2_with (first
      | (go_at_call 40; refine (made_ok _ d s m D HD.out).mono ?_; rintro e w1 ⟨rfl, rfl⟩)
      | (go_at_call 41; refine (up_ok _ d s m D l o HD.out HF.out).mono ?_; rintro e w1 ⟨rfl, rfl⟩; rw [HB.out]))
    go_ret
    exact ⟨rfl, rfl⟩
  | false =>
    rw [if_neg (by simp)]
    go_enter Tryd.func51, Tryd.ntmps51
    go_wp2_with (first
      | (go_at_call 40; refine (made_ok _ d s m D HD.out).mono ?_; rintro e w1 ⟨rfl, rfl⟩)
      | (go_at_call 41; refine (up_ok _ d s m D l o HD.out HF.out).mono ?_; rintro e w1 ⟨rfl, rfl⟩; rw [HB.out]))
    go_ret
    exact ⟨rfl, rfl⟩
/-- Whether n sectors from x on are there. -/
def hasB (N : Nat) (x n : Int) : Bool := decide (0 ≤ x) && decide (0 ≤ n) && decide (n ≤ (N : Int) - x)
theorem has_ok (W : World) (d s m : Nat) (D : Dsk) (x n : Int) (h : DiskAt W d s m D) (hx : x < 9223372036854775808) : Calls Tryd.prog 61 #[.pointer (some ⟨d, 0, none⟩), .int .i64 x, .int .i64 n] W fun e w' => e = .returned (.bool (hasB D.N x n)) ∧ w' = W := by
  obtain ⟨c1, _⟩ := h.recd.cel 1 _ rfl
  have h2 := h.n2
  clear h
  unfold hasB
  by_cases a : 0 ≤ x
  · have w1 : wrap64 ((D.N : Int) - x) = (D.N : Int) - x := by unfold wrap64; omega
    have w2 : IntKind.i64.wrap ((D.N : Int) - x) = (D.N : Int) - x := by rw [IntKind.wrap_i64]; omega
    by_cases b : 0 ≤ n
    · rw [decide_eq_true a, decide_eq_true b]
      go_enter Tryd.func61, Tryd.ntmps61
      go_wp2_with fail
      go_ret
      exact ⟨by simp, rfl⟩
    · rw [decide_eq_true a, decide_eq_false b]
      go_enter Tryd.func61, Tryd.ntmps61
      go_wp2_with fail
      go_ret
      exact ⟨rfl, rfl⟩
  · rw [decide_eq_false a]
    go_enter Tryd.func61, Tryd.ntmps61
    go_wp2_with fail
    go_ret
    exact ⟨rfl, rfl⟩
/-- Whether a fuse lets a change by, and what it is then. -/
def fzPass (fz : Option Nat) (l : Int) : Bool := fz.isNone || !decide (l = 0)
def fzLeft (fz : Option Nat) (l : Int) : Int := if fz.isSome = true ∧ ¬ l = 0 then l - 1 else l
def fzOut (fz : Option Nat) (l : Int) (o : Bool) : Bool := if fz.isSome = true ∧ l = 0 then true else o
theorem pass_any (W : World) (fz : Option Nat) (l : Int) (o : Bool) (h : FuseIs W fz l o) : Calls Tryd.prog 79 #[fzV fz] W fun e w' => e = .returned (.bool (fzPass fz l)) ∧ FuseIs w' fz (fzLeft fz l) (fzOut fz l o) ∧ Off fz.toList W w' := by
  cases fz with
  | none =>
    have HF : Hid (FuseIs W none l o) := h
    clear h
    unfold fzV
    go_enter Tryd.func79, Tryd.ntmps79
    go_wp2_with fail
    go_ret
    exact ⟨rfl, HF.out, Off.refl _ _⟩
  | some q =>
    obtain ⟨c0, f0⟩ := h.1.cel 0 _ rfl
    obtain ⟨c1, f1⟩ := h.1.cel 1 _ rfl
    have HF : Hid (FuseIs W (some q) l o) := h
    have b0 := h.2.1
    have b1 := h.2.2
    clear h
    by_cases z : l = 0
    · subst z
      unfold fzV
      go_enter Tryd.func79, Tryd.ntmps79
      go_wp2_with fail
      go_ret
      exact ⟨rfl, ⟨HF.out.1.put 1 (.bool true), HF.out.2⟩, Off.set _ _ _ (by simp)⟩
    · have e1 : fzPass (some q) l = true := by simp [fzPass, z]
      have e2 : fzLeft (some q) l = l - 1 := by simp [fzLeft, z]
      have e3 : fzOut (some q) l o = o := by simp [fzOut, z]
      rw [e1, e2, e3]
      have w1 : wrap64 (l - 1) = l - 1 := by unfold wrap64; omega
      have w2 : IntKind.i64.wrap (l - 1) = l - 1 := by rw [IntKind.wrap_i64]; omega
      clear e1 e2 e3
      unfold fzV
      go_enter Tryd.func79, Tryd.ntmps79
      go_wp2_with fail
      go_ret
      exact ⟨rfl, ⟨HF.out.1.put 0 (.int .i64 (l - 1)), by omega, by omega⟩, Off.set _ _ _ (by simp)⟩
end Go.Proofs.YtijpoipcadhchaaDoor
namespace Go.Proofs.YtijpoipcadhchaaDoor
open Go.RowKit Go.Maps
/-- A new disk. -/
def dsk0 (n : Nat) : Dsk := ⟨n, fun _ => 0, fun _ => false, fun _ => 0, 0, none, false, n⟩
theorem info_sec : (Tryd.prog.info? 91).map (fun i => (i.zero, i.size, i.bytes)) = some (some (secV fun _ => 0), 256, 256) := by kernel_rfl
theorem make_secs (n : Nat) (h : n ≤ 65536) (w : World) : ∃ cs, (Instr.makeSlice 40 (.int .i64 (n : Int)) (.int .i64 (n : Int))).run Tryd.prog w = .ok (.slice (some ⟨w.heap.size, 0, none⟩) n n) (w.alloc (.cells cs 91)) ∧ IRow (w.alloc (.cells cs 91)) w.heap.size .u8 (n * 256) (fun _ => 0) := by
  obtain ⟨i, hi, hz0, hz1, hz2⟩ := info_parts info_sec
  have h1 := run_make (P := Tryd.prog) w 40 91 i (secV fun _ => 0) Tryd.underlying40 hi hz0 .i64 .i64 n n (by omega) (by omega) (by rw [hz2]; omega) (by omega)
  rw [Int.toNat_natCast] at h1
  refine ⟨_, h1, fun j hj => ?_, fun j => by simp [go_sem], by simp⟩
  rw [World.cell?_alloc_at _ _ _ _ rfl, hz1]
  have e : (secV fun _ => 0).cells = (cl .u8 256 fun _ => 0).toArray := rfl
  rw [e]
  unfold madeCells
  have l : (cl .u8 256 fun _ => 0).toArray.size = 256 := by simp [cl_len]
  have k := cl_at .u8 256 (fun _ => 0) (j % 256) (by omega)
  simp only [Array.getElem?_map, Array.getElem?_range]
  rw [if_pos hj]
  simp only [Option.map_some, l]
  rw [getElem!_pos _ _ (by rw [l]; omega)]
  simp only [List.getElem_toArray]
  rw [List.getElem?_eq_getElem (by rw [cl_len]; omega)] at k
  exact k
set_option maxRecDepth 100000 in
theorem new_no (n : Int) (w : World) (h : n < 1 ∨ 65536 < n) : Calls Tryd.prog 15 #[.int .i64 n] w fun e w' => e = .returned (.tuple #[.pointer none, .int .i64 5]) ∧ w' = w := by
  by_cases a : n < 1
  · clear h
    go_enter Tryd.func15, Tryd.ntmps15
    go_wp2_with fail
    go_ret2
    exact ⟨rfl, rfl⟩
  · have b : 65536 < n := by omega
    clear h
    go_enter Tryd.func15, Tryd.ntmps15
    go_wp2_with fail
    go_ret2
    exact ⟨rfl, rfl⟩
/-- What New answers. -/
def NewPost (w : World) (n : Nat) (e : Ending) (w' : World) : Prop := ∃ d s m, e = .returned (.tuple #[.pointer (some ⟨d, 0, none⟩), .int .i64 0]) ∧ w.heap.size ≤ d ∧ w.heap.size ≤ s ∧ w.heap.size ≤ m ∧ DiskAt w' d s m (dsk0 n) ∧ Below w.heap.size w w'
set_option maxRecDepth 100000 in
theorem new_ok (n : Nat) (w : World) (h1 : 1 ≤ n) (h2 : n ≤ 65536) : Calls Tryd.prog 15 #[.int .i64 (n : Int)] w (NewPost w n) := by
  obtain ⟨cs, hmk, hrow⟩ := make_secs n h2 w
  have HR : Hid (IRow (w.alloc (.cells cs 91)) w.heap.size .u8 (n * 256) (fun _ => 0)) := hrow
  have hmm := fun w => run_makeMap (P := Tryd.prog) 41 w
  have a : ¬ (n : Int) < 1 := by omega
  have b : ¬ (65536 : Int) < n := by omega
  have R0 := Rec19.new ((w.alloc (.cells cs 91)).alloc (.map #[] 0)) 44 [.pointer (some ⟨w.heap.size + 1 + 1, 0, none⟩), .slice (some ⟨w.heap.size, 0, none⟩) n n, .map (some (w.heap.size + 1)), .int .i64 0, .pointer none, .bool false]
  have M0 := MapOk.new (w.alloc (.cells cs 91)) n (fun _ => 0)
  rw [World.size_alloc, World.size_alloc] at R0
  rw [World.size_alloc] at M0
  have B0 : Below w.heap.size w (((w.alloc (.cells cs 91)).alloc (.map #[] 0)).alloc (.cells #[.pointer (some ⟨w.heap.size + 1 + 1, 0, none⟩), .slice (some ⟨w.heap.size, 0, none⟩) n n, .map (some (w.heap.size + 1)), .int .i64 0, .pointer none, .bool false] 44)) :=
    (((Below.refl _ _).alloc (Nat.le_refl _) _).alloc (by simp) _).alloc (by simp; omega) _
  have DD : Hid (DiskAt (((w.alloc (.cells cs 91)).alloc (.map #[] 0)).alloc (.cells #[.pointer (some ⟨w.heap.size + 1 + 1, 0, none⟩), .slice (some ⟨w.heap.size, 0, none⟩) n n, .map (some (w.heap.size + 1)), .int .i64 0, .pointer none, .bool false] 44)) (w.heap.size + 1 + 1) w.heap.size (w.heap.size + 1) (dsk0 n) ∧ Below w.heap.size w (((w.alloc (.cells cs 91)).alloc (.map #[] 0)).alloc (.cells #[.pointer (some ⟨w.heap.size + 1 + 1, 0, none⟩), .slice (some ⟨w.heap.size, 0, none⟩) n n, .map (some (w.heap.size + 1)), .int .i64 0, .pointer none, .bool false] 44))) := by
    refine ⟨⟨R0, (hrow.alloc _).alloc _, M0.same (Below.heap_alloc _ _ _ (by simp)), fun j _ => ⟨Int.le_refl _, by show (0 : Int) < 256; decide⟩, fun n j _ h => (by cases h), h1, h2, by omega, by omega, by omega⟩, B0⟩
  clear hrow R0 M0 B0
  go_enter Tryd.func15, Tryd.ntmps15
  go_wp2_with fail
  exact bodyPost_ret (v := .tuple #[.pointer (some ⟨w.heap.size + 1 + 1, 0, none⟩), .int .i64 0]) (by simp [results, Tryd.results15]) rfl ⟨_, _, _, rfl, by omega, by omega, by omega, DD.out.1, DD.out.2⟩
/-- All sectors are safe. -/
def Dsk.safe (D : Dsk) : Dsk := { D with lo := fun _ => false }
/-- One change more. -/
def Dsk.more (D : Dsk) : Dsk := { D with ops := D.ops + 1 }
theorem settle_ok (W : World) (d s m : Nat) (D : Dsk) (h : DiskAt W d s m D) : Calls Tryd.prog 54 #[.pointer (some ⟨d, 0, none⟩)] W fun e w' => e = .returned (.tuple #[]) ∧ DiskAt w' d s W.heap.size D.safe ∧ Off [d] W w' := by
  have hmm := fun w => run_makeMap (P := Tryd.prog) 41 w
  have hd := h.dl
  have hs := h.sl
  have O1 : Off [d] W ((W.setCell ⟨d, 2, none⟩ (.map (some W.heap.size))).alloc (.map #[] 0)) := (Off.set W 2 _ (by simp)).alloc _
  have R1 := (h.recd.put 2 (.map (some W.heap.size))).below ((Below.refl _ _).alloc (Nat.le_refl _) (.map #[] 0))
  have zz : (W.setCell ⟨d, 2, none⟩ (.map (some W.heap.size))).heap.size = W.heap.size := by simp [World.setCell]
  have M1 := MapOk.new (W.setCell ⟨d, 2, none⟩ (.map (some W.heap.size))) D.N D.ob
  rw [zz] at M1
  have DD : Hid (DiskAt ((W.setCell ⟨d, 2, none⟩ (.map (some W.heap.size))).alloc (.map #[] 0)) d s W.heap.size D.safe ∧ Off [d] W ((W.setCell ⟨d, 2, none⟩ (.map (some W.heap.size))).alloc (.map #[] 0))) :=
    ⟨⟨R1, h.row.off O1 (by have := h.ds; simp; omega), M1, h.sb, fun n j _ q => (by cases q), h.n1, h.n2, h.ds, by omega, by omega⟩, O1⟩
  obtain ⟨c2, f2⟩ := h.recd.cel 2 _ rfl
  have c2' : (W.alloc (.map #[] 0)).cell? ⟨d, 2, none⟩ = some (.map (some m)) := by rw [World.cell?_alloc_past _ _ _ (by show d < W.heap.size; omega)]; exact c2
  have f2' : (W.alloc (.map #[] 0)).frozen? ⟨d, 2, none⟩ = false := (Below.frozen ((Below.refl W.heap.size W).alloc (Nat.le_refl _) (.map #[] 0)) hd).trans f2
  clear h R1 O1 M1 zz c2 f2
  go_enter Tryd.func54, Tryd.ntmps54
  go_wp2_with fail
  go_end0
  exact ⟨rfl, DD.out.1, DD.out.2⟩
end Go.Proofs.YtijpoipcadhchaaDoor
namespace Go.Proofs.YtijpoipcadhchaaDoor
open Go.RowKit Go.Maps
theorem DiskAt.bump {W : World} {d s m : Nat} {D : Dsk} (h : DiskAt W d s m D) : DiskAt (W.setCell ⟨d, 3, none⟩ (.int .i64 (D.ops + 1))) d s m D.more := by
  have O : Off [d] W (W.setCell ⟨d, 3, none⟩ (.int .i64 (D.ops + 1))) := Off.set _ _ _ (by simp)
  exact { h with recd := h.recd.put 3 (.int .i64 (D.ops + 1)), row := h.row.off O (by have := h.ds; simp; omega), map := h.map.off O (by have := h.dm; simp; omega) }
/-- A disk's fuse lies apart from the disk. -/
def FzOk (D : Dsk) (d s m : Nat) : Prop := ∀ q, D.fz = some q → q ≠ d ∧ q ≠ s ∧ q ≠ m
theorem DiskAt.past {W W' : World} {d s m : Nat} {D : Dsk} (h : DiskAt W d s m D) (hB : Off D.fz.toList W W') (hq : FzOk D d s m) : DiskAt W' d s m D := by
  have k : ∀ x, x ∈ D.fz.toList → x ≠ d ∧ x ≠ s ∧ x ≠ m := fun x hx => by
    cases e : D.fz with
    | none => rw [e] at hx; simp at hx
    | some q => rw [e] at hx; simp at hx; subst hx; exact hq _ e
  exact h.off hB (fun x => (k _ x).1 rfl) (fun x => (k _ x).2.1 rfl) (fun x => (k _ x).2.2 rfl)
theorem fz_mem {fz : Option Nat} {x : Nat} (h : x ∈ fz.toList) : fz = some x := by
  cases fz with
  | none => simp at h
  | some q => simp at h; rw [h]
theorem flush1_ok (W : World) (d s m B : Nat) (D : Dsk) (h : DiskAt W d s m D) (hb : W.cell? ⟨B, 0, none⟩ = some (.pointer (some ⟨d, 0, none⟩))) : Calls Tryd.prog 53 #[.pointer (some ⟨B, 0, none⟩)] W fun e w' => e = .returned (.tuple #[]) ∧ DiskAt w' d s W.heap.size D.safe ∧ Off [d] W w' := by
  have HD : Hid (DiskAt W d s m D) := h
  clear h
  go_enter Tryd.func53, Tryd.ntmps53
  go_wp2_with (go_at_call 54; refine (settle_ok _ d s m D HD.out).mono ?_; rintro e w1 ⟨rfl, h1, h2⟩)
  go_end0
  exact ⟨rfl, h1, h2⟩
/-- What a change that is done leaves. -/
def DonePost (W : World) (d s : Nat) (D D' : Dsk) (l : Int) (o : Bool) (bs : List Nat) (e : Ending) (w' : World) : Prop := e = .returned (.int .i64 0) ∧ ∃ m', (m' ∈ bs ∨ W.heap.size ≤ m') ∧ DiskAt w' d s m' D' ∧ FuseIs w' D.fz (fzLeft D.fz l) o ∧ Off (bs ++ D.fz.toList) W w'
/-- What a change that the fuse does not let by leaves. -/
def BlowPost (W : World) (d s m : Nat) (D : Dsk) (l : Int) (e : Ending) (w' : World) : Prop := e = .returned (.int .i64 11) ∧ DiskAt w' d s m D ∧ FuseIs w' D.fz l true ∧ Off D.fz.toList W w'
theorem fzOut_pass {fz : Option Nat} {l : Int} {o : Bool} (h : fzPass fz l = true) : fzOut fz l o = o := by
  unfold fzPass at h
  unfold fzOut
  cases fz with
  | none => simp
  | some q => simp at h; simp [h]
theorem fzOut_stop {fz : Option Nat} {l : Int} {o : Bool} (h : fzPass fz l = false) : fzOut fz l o = true ∧ fzLeft fz l = l := by
  unfold fzPass at h
  unfold fzOut fzLeft
  cases fz with
  | none => simp at h
  | some q => simp at h; simp [h]
theorem stop_post {W w1 : World} {d s m : Nat} {D : Dsk} {l : Int} {o : Bool} (h : DiskAt W d s m D) (hq : FzOk D d s m) (hp : fzPass D.fz l = false) (h1 : FuseIs w1 D.fz (fzLeft D.fz l) (fzOut D.fz l o)) (h2 : Off D.fz.toList W w1) : BlowPost W d s m D l (.returned (.int .i64 11)) w1 := by
  obtain ⟨a, b⟩ := fzOut_stop (o := o) hp
  rw [a, b] at h1
  exact ⟨rfl, h.past h2 hq, h1, h2⟩
theorem changeF_blow (W : World) (d s m B : Nat) (D : Dsk) (l : Int) (o : Bool) (h : DiskAt W d s m D) (hf : FuseIs W D.fz l o) (hq : FzOk D d s m) (hp : fzPass D.fz l = false) :
    Calls Tryd.prog 52 #[.pointer (some ⟨d, 0, none⟩), .func (.func 53) #[] #[.pointer (some ⟨B, 0, none⟩)]] W (BlowPost W d s m D l) := by
  obtain ⟨c4, _⟩ := h.recd.cel 4 _ rfl
  have SP : Hid (∀ w1, FuseIs w1 D.fz (fzLeft D.fz l) (fzOut D.fz l o) → Off D.fz.toList W w1 → BlowPost W d s m D l (.returned (.int .i64 11)) w1) := fun w1 h1 h2 => stop_post h hq hp h1 h2
  have HF : Hid (FuseIs W D.fz l o) := hf
  have HP : Hid (fzPass D.fz l = false) := hp
  clear h hf hq hp
  go_enter Tryd.func52, Tryd.ntmps52
  go_wp2_with (go_at_call 79; refine (pass_any _ D.fz l o HF.out).mono ?_; rintro e w1 ⟨rfl, h1, h2⟩; rw [HP.out]; have PP : Hid (BlowPost W d s m D l (.returned (.int .i64 11)) w1) := SP.out w1 h1 h2; clear h1 h2)
  go_ret
  exact PP.out
theorem changeF_ok (W : World) (d s m B : Nat) (D : Dsk) (l : Int) (o : Bool) (h : DiskAt W d s m D) (hf : FuseIs W D.fz l o) (hq : FzOk D d s m) (hp : fzPass D.fz l = true)
    (hb : W.cell? ⟨B, 0, none⟩ = some (.pointer (some ⟨d, 0, none⟩))) (hB : B < W.heap.size) (hBq : ∀ q, D.fz = some q → q ≠ B) (ho : 0 ≤ D.ops ∧ D.ops ≤ 1000000) :
    Calls Tryd.prog 52 #[.pointer (some ⟨d, 0, none⟩), .func (.func 53) #[] #[.pointer (some ⟨B, 0, none⟩)]] W (DonePost W d s D D.safe.more l o [d]) := by
  obtain ⟨c4, _⟩ := h.recd.cel 4 _ rfl
  have HD : Hid (DiskAt W d s m D) := h
  have HQ : Hid (FzOk D d s m) := hq
  have HF : Hid (FuseIs W D.fz l o) := hf
  have HP : Hid (fzPass D.fz l = true) := hp
  have HB : Hid (∀ w1, Off D.fz.toList W w1 → w1.cell? ⟨B, 0, none⟩ = some (.pointer (some ⟨d, 0, none⟩))) := fun w1 h1 => (h1.cell (p := ⟨B, 0, none⟩) hB (fun q => hBq _ (fz_mem q) rfl)).trans hb
  have w1' : wrap64 (D.ops + 1) = D.ops + 1 := by unfold wrap64; omega
  have w2' : IntKind.i64.wrap (D.ops + 1) = D.ops + 1 := by rw [IntKind.wrap_i64]; omega
  clear h hf hq hp hb
  go_enter Tryd.func52, Tryd.ntmps52
  go_wp2_with (first
    | (go_at_call 79; refine (pass_any _ D.fz l o HF.out).mono ?_; rintro e w1 ⟨rfl, h1, h2⟩; rw [HP.out]; rw [fzOut_pass HP.out] at h1
       have F1 : Hid (FuseIs w1 D.fz (fzLeft D.fz l) o) := h1
       have O1 : Hid (Off D.fz.toList W w1) := h2
       clear h1 h2)
    | (go_at_call 53; refine (flush1_ok _ d s m B D (HD.out.past O1.out HQ.out) (HB.out _ O1.out)).mono ?_; rintro e w2 ⟨rfl, h1, h2⟩
       obtain ⟨c3, f3⟩ := h1.recd.cel 3 _ rfl
       have c3' : w2.cell? ⟨d, 3, none⟩ = some (.int .i64 D.ops) := c3
       have PP : Hid (DonePost W d s D D.safe.more l o [d] (.returned (.int .i64 0)) (w2.setCell ⟨d, 3, none⟩ (.int .i64 (D.ops + 1)))) := by
         have O3 : Off [d] w1 (w2.setCell ⟨d, 3, none⟩ (.int .i64 (D.ops + 1))) := h2.trans (Off.set _ _ _ (by simp))
         exact ⟨rfl, w1.heap.size, .inr O1.out.size, h1.bump, F1.out.off O3 (fun q hq => by simp; exact (HQ.out q hq).1), (O1.out.mono (fun _ q => List.mem_append_right _ q)).trans (O3.mono (fun _ q => List.mem_append_left _ q))⟩
       clear h1 h2 c3 O1 F1))
  go_ret
  exact PP.out
theorem flush_down (W : World) (d s m : Nat) (D : Dsk) (l : Int) (o : Bool) (h : DiskAt W d s m D) (hf : FuseIs W D.fz l o) (hu : D.up o = false) :
    Calls Tryd.prog 31 #[.pointer (some ⟨d, 0, none⟩)] W fun e w' => e = .returned (.int .i64 11) ∧ Below W.heap.size W w' := by
  have B0 : Below W.heap.size W (W.alloc (.cells #[.pointer (some ⟨d, 0, none⟩)] 32)) := (Below.refl _ _).alloc (Nat.le_refl _) _
  have HD : Hid (DiskAt (W.alloc (.cells #[.pointer (some ⟨d, 0, none⟩)] 32)) d s m D) := h.below B0
  have HF : Hid (FuseIs (W.alloc (.cells #[.pointer (some ⟨d, 0, none⟩)] 32)) D.fz l o) := hf.below B0
  have BB : Hid (Below W.heap.size W (W.alloc (.cells #[.pointer (some ⟨d, 0, none⟩)] 32))) := B0
  have HU : Hid (D.up o = false) := hu
  clear h hf hu B0
  go_enter Tryd.func31, Tryd.ntmps31
  go_wp2_with (go_at_call 51; refine (ready_ok _ d s m D l o HD.out HF.out).mono ?_; rintro e w1 ⟨rfl, rfl⟩; rw [HU.out, if_neg (by simp)])
  go_ret
  exact ⟨rfl, BB.out⟩
theorem flush_blow (W : World) (d s m : Nat) (D : Dsk) (l : Int) (o : Bool) (h : DiskAt W d s m D) (hf : FuseIs W D.fz l o) (hq : FzOk D d s m) (hu : D.up o = true) (hp : fzPass D.fz l = false) :
    Calls Tryd.prog 31 #[.pointer (some ⟨d, 0, none⟩)] W (BlowPost W d s m D l) := by
  have B0 : Below W.heap.size W (W.alloc (.cells #[.pointer (some ⟨d, 0, none⟩)] 32)) := (Below.refl _ _).alloc (Nat.le_refl _) _
  have HD : Hid (DiskAt (W.alloc (.cells #[.pointer (some ⟨d, 0, none⟩)] 32)) d s m D) := h.below B0
  have HF : Hid (FuseIs (W.alloc (.cells #[.pointer (some ⟨d, 0, none⟩)] 32)) D.fz l o) := hf.below B0
  have HU : Hid (D.up o = true) := hu
  clear h hf hu B0
  go_enter Tryd.func31, Tryd.ntmps31
  go_wp2_with (first
    | (go_at_call 51; refine (ready_ok _ d s m D l o HD.out HF.out).mono ?_; rintro e w1 ⟨rfl, rfl⟩; rw [HU.out, if_pos rfl])
    | (go_at_call 52; refine (changeF_blow _ d s m W.heap.size D l o HD.out HF.out hq hp).mono ?_; rintro e w2 ⟨rfl, h1, h2, h3⟩
       have PP : Hid (BlowPost W d s m D l (.returned (.int .i64 11)) w2) := ⟨rfl, h1, h2, ((Off.refl _ W).alloc _).trans h3⟩
       clear h1 h2 h3))
  go_ret
  exact PP.out
theorem flush_ok (W : World) (d s m : Nat) (D : Dsk) (l : Int) (o : Bool) (h : DiskAt W d s m D) (hf : FuseIs W D.fz l o) (hq : FzOk D d s m) (hu : D.up o = true) (hp : fzPass D.fz l = true) (hql : ∀ q, D.fz = some q → q < W.heap.size) (ho : 0 ≤ D.ops ∧ D.ops ≤ 1000000) :
    Calls Tryd.prog 31 #[.pointer (some ⟨d, 0, none⟩)] W (DonePost W d s D D.safe.more l o [d]) := by
  have B0 : Below W.heap.size W (W.alloc (.cells #[.pointer (some ⟨d, 0, none⟩)] 32)) := (Below.refl _ _).alloc (Nat.le_refl _) _
  have HD : Hid (DiskAt (W.alloc (.cells #[.pointer (some ⟨d, 0, none⟩)] 32)) d s m D) := h.below B0
  have HF : Hid (FuseIs (W.alloc (.cells #[.pointer (some ⟨d, 0, none⟩)] 32)) D.fz l o) := hf.below B0
  have HU : Hid (D.up o = true) := hu
  clear h hf hu B0
  go_enter Tryd.func31, Tryd.ntmps31
  go_wp2_with (first
    | (go_at_call 51; refine (ready_ok _ d s m D l o HD.out HF.out).mono ?_; rintro e w1 ⟨rfl, rfl⟩; rw [HU.out, if_pos rfl])
    | (go_at_call 52; refine (changeF_ok _ d s m W.heap.size D l o HD.out HF.out hq hp (by simp [go_sem]) (by simp) (fun q e => by have := hql q e; omega) ho).mono ?_; rintro e w2 ⟨rfl, m', h0, h1, h2, h3⟩
       have PP : Hid (DonePost W d s D D.safe.more l o [d] (.returned (.int .i64 0)) w2) := ⟨rfl, m', h0.imp id (fun q => by simp at q; omega), h1, h2, ((Off.refl _ W).alloc _).trans h3⟩
       clear h0 h1 h2 h3))
  go_ret
  exact PP.out
end Go.Proofs.YtijpoipcadhchaaDoor
namespace Go.Proofs.YtijpoipcadhchaaDoor
open Go.RowKit Go.Maps
theorem zero_sec (w : World) : (zeroValue 91).run Tryd.prog w = .ok (secV fun _ => 0) w := by
  obtain ⟨i, hi, hz0, hz1, hz2⟩ := info_parts info_sec
  simp [zeroValue, typeInfo, hi, hz0]
theorem held_inj {v u : Value} {ps : List MemPlace} (h : heldR v = some (.held u, ps)) : v = u := by
  unfold heldR at h
  injection h with h
  injection h with h _
  injection h
/-- What lies at a sector's number in the map of old ones. -/
def oldF (lo : Nat → Bool) (ob : Nat → Int) (i : Nat) : Nat → Int := if lo i = true then at256 ob i else fun _ => 0
theorem look_at (b : Bool) {W : World} {m N i : Nat} {lo : Nat → Bool} {ob : Nat → Int} (h : MapOk W m N lo ob) (hi : i < N) (hN : N ≤ 65536) :
    (Instr.lookup 41 (.map (some m)) (.int .i64 (i : Int)) b).run Tryd.prog W = .ok (if b = true then .tuple #[secV (oldF lo ob i), .bool (lo i)] else secV (oldF lo ob i)) W := by
  obtain ⟨D, n, h, k⟩ := h
  have at' : D.atKey (.int .i64 (i : Int)) (.held (secV fun _ => 0)) = .held (secV (oldF lo ob i)) := by
    unfold oldF
    cases e : lo i with
    | true => rw [if_pos rfl]; exact k.val i hi e _
    | false => rw [if_neg (by simp)]; exact atKey_of_not_has ((k.iff i hi).trans e) _
  cases b with
  | true =>
    obtain ⟨v, ps, hr, hv⟩ := h.look_ok keyed_int Tryd.underlying41 (zero_sec W) (zd := .held (secV fun _ => 0)) (zp := []) rfl (key_nat i (by omega))
    rw [at'] at hv
    rw [hr, held_inj hv, k.iff i hi, if_pos rfl]
  | false =>
    obtain ⟨v, ps, hr, hv⟩ := h.lookup keyed_int Tryd.underlying41 (zero_sec W) (zd := .held (secV fun _ => 0)) (zp := []) rfl (key_nat i (by omega))
    rw [at'] at hv
    rw [hr, held_inj hv, if_neg (by simp)]
/-- F with sector i as f. -/
def putF (F : Nat → Int) (i : Nat) (f : Nat → Int) (j : Nat) : Int := if j / 256 = i then f (j % 256) else F j
theorem putF_same (F : Nat → Int) (i : Nat) (f : Nat → Int) (j : Nat) (hj : j < 256) : at256 (putF F i f) i j = f j := by
  unfold at256 putF
  rw [if_pos (by omega), show (i * 256 + j) % 256 = j by omega]
theorem putF_other (F : Nat → Int) (i n : Nat) (f : Nat → Int) (j : Nat) (hj : j < 256) (h : n ≠ i) : at256 (putF F i f) n j = at256 F n j := by
  unfold at256 putF
  rw [if_neg (by omega)]
/-- b at i too. -/
def setB (lo : Nat → Bool) (i : Nat) (n : Nat) : Bool := if n = i then true else lo n
theorem lit_ne {n i : Nat} (e : ¬ n = i) : Lit.int .i64 (n : Int) ≠ Lit.int .i64 (i : Int) := by
  intro q
  have q' : (n : Int) = i := by simpa using q
  omega
theorem put_at {W : World} {m N i : Nat} {lo : Nat → Bool} {ob : Nat → Int} (f : Nat → Int) (h : MapOk W m N lo ob) (hi : i < N) (hN : N ≤ 65536) :
    ∃ W', (Instr.mapUpdate 41 (.map (some m)) (.int .i64 (i : Int)) (secV f)).run Tryd.prog W = .ok () W' ∧ MapOk W' m N (setB lo i) (putF ob i f) ∧ Off [m] W W' := by
  obtain ⟨D, h, k⟩ := h.tight
  obtain ⟨W', hr, ho, hg⟩ := h.update keyed_int Tryd.underlying41 (by unfold maxLen; omega) (key_nat i (by omega)) (val := secV f) (d := .held (secV f)) (ps := []) rfl
  have kl : WideAt.IsKeyLit (.int .i64 (i : Int)) := trivial
  refine ⟨W', hr, ⟨_, _, ho, k.map.put _ _, fun x hx => ?_, fun n hn => ?_, fun n hn hl z => ?_⟩, Off.grown hg (fun r e => by cases e; simp)⟩
  · by_cases e : x = (i : Int)
    · exact ⟨i, e, hi⟩
    · rw [has_put_other (fun q => e (by simpa using q))] at hx
      exact k.only x hx
  · unfold setB
    by_cases e : n = i
    · subst e
      rw [if_pos rfl]
      exact has_put_same k.map kl _
    · rw [if_neg e, has_put_other (lit_ne e)]
      exact k.iff n hn
  · unfold setB at hl
    by_cases e : n = i
    · subst e
      rw [atKey_put_same k.map kl]
      unfold secV
      rw [cl_congr .u8 256 _ _ (fun j hj => (putF_same ob n f j hj).symm)]
    · rw [if_neg e] at hl
      rw [atKey_put_other (lit_ne e), k.val n hn hl z]
      unfold secV
      rw [cl_congr .u8 256 _ _ (fun j hj => (putF_other ob i n f j hj e).symm)]
/-- A disk whose sector i is loose. -/
def Dsk.loosen (D : Dsk) (i : Nat) : Dsk := { D with lo := setB D.lo i, ob := if D.lo i = true then D.ob else putF D.ob i (at256 D.sec i) }
theorem sec_at {W : World} {d s m : Nat} {D : Dsk} (h : DiskAt W d s m D) (i : Nat) (hi : i < D.N) : W.rangeAt s (i * 256) (cl .u8 256 (at256 D.sec i)) := by
  intro j v hj
  obtain ⟨hk, rfl⟩ := cl_at' hj
  exact h.row.1 (i * 256 + j) (by omega)
/-- An operation that yields nothing and alone may come up, its run known. -/
theorem skip_at {P : Program} {ops : Array Oper} {Q : Exit → Act → World → Prop} {md : Region.Mode} {S : World → Prop} {i : Nat} {o : Oper} {fuel : Nat} {listed : Array Bool} {a : Act} {w : World} (d : Option Tmp) (hi : ops[i]? = some o) (hd : o.dst = d) (hw : Region.wanted o (yielded ops a.tmps) = true) (hr : Region.ready md ops listed = [i])
    (w' : World) (hx : (execOp a.eval o).run P w = .ok .skip w') (hS : S w') (h : S w' → wpAnyH P md ops Q S fuel (listed.setIfInBounds i true) (a.put d undef) w') : wpAnyH P md ops Q S (fuel + 1) listed a w := by
  subst hd
  refine wpAnyH_all hr (by simp) (fun j hj => ?_)
  obtain rfl : j = i := by simpa using hj
  unfold wpOp
  simp only [hi, hw, if_true]
  refine .inl ?_
  unfold Oper.wp
  rw [hx]
  exact ⟨hS, h hS⟩
theorem mapup_run {a : Act} {w : World} {o : Oper} (t : TypeId) (m x v : Operand) (hop : o.op = .mapUpdate t m x v) (M X V : Value) (hm : a.eval m = M) (hx : a.eval x = X) (hv : a.eval v = V) {w' : World} (hr : (Instr.mapUpdate t M X V).run Tryd.prog w = .ok () w') :
    (execOp a.eval o).run Tryd.prog w = .ok .skip w' := by
  simp [execOp, hop, hm, hx, hv, hr, Result.andThen]
theorem DiskAt.loosed {W W' : World} {d s m i : Nat} {D : Dsk} (h : DiskAt W d s m D) (hl : D.lo i = false) (hi : i < D.N) (hm : MapOk W' m D.N (setB D.lo i) (putF D.ob i (at256 D.sec i))) (hO : Off [m] W W') : DiskAt W' d s m (D.loosen i) := by
  have e : (D.loosen i).ob = putF D.ob i (at256 D.sec i) := if_neg (by rw [hl]; simp)
  refine { recd := h.recd.off hO (by have := h.dm; simp; omega), row := h.row.off hO (by have := h.sm; simp; omega), map := ?_, sb := h.sb, obb := fun n j hn q hj => ?_, n1 := h.n1, n2 := h.n2, ds := h.ds, dm := h.dm, sm := h.sm }
  · rw [e]; exact hm
  · rw [e]
    by_cases g : n = i
    · subst g
      rw [putF_same _ _ _ _ hj]
      have hn' : n < D.N := hn
      exact h.sb _ (by omega)
    · rw [putF_other _ _ _ _ _ hj g]
      have : setB D.lo i n = true := q
      unfold setB at this
      rw [if_neg g] at this
      exact h.obb n j hn this hj
theorem DiskAt.loosed' {W : World} {d s m i : Nat} {D : Dsk} (h : DiskAt W d s m D) (hl : D.lo i = true) : DiskAt W d s m (D.loosen i) := by
  have e : (D.loosen i).ob = D.ob := if_pos hl
  have e2 : ∀ n, D.lo n = setB D.lo i n := fun n => by
    unfold setB
    by_cases g : n = i
    · rw [if_pos g, g, hl]
    · rw [if_neg g]
  refine { recd := h.recd, row := h.row, map := ?_, sb := h.sb, obb := fun n j hn q hj => ?_, n1 := h.n1, n2 := h.n2, ds := h.ds, dm := h.dm, sm := h.sm }
  · rw [e]; exact h.map.congr (fun n _ => e2 n) (fun _ _ _ _ _ => rfl)
  · rw [e]; exact h.obb n j hn ((e2 n).trans q) hj
set_option maxRecDepth 100000 in
set_option maxHeartbeats 1000000 in
theorem loosen_ok (W : World) (d s m i : Nat) (D : Dsk) (h : DiskAt W d s m D) (hi : i < D.N) : Calls Tryd.prog 78 #[.pointer (some ⟨d, 0, none⟩), .int .i64 (i : Int)] W fun e w' => e = .returned (.tuple #[]) ∧ DiskAt w' d s m (D.loosen i) ∧ Off [m] W w' := by
  obtain ⟨c1, f1⟩ := h.recd.cel 1 _ rfl
  obtain ⟨c2, f2⟩ := h.recd.cel 2 _ rfl
  have hlk := look_at true h.map hi h.n2
  rw [if_pos rfl] at hlk
  unfold secV at hlk
  have HD : Hid (DiskAt W d s m D) := h
  have h2 := h.n2
  have i0 : (0 : Int) ≤ i := by omega
  have i1 : (i : Int) < D.N := by omega
  clear h
  cases e : D.lo i with
  | true =>
    have HE : Hid (D.lo i = true) := e
    rw [e] at hlk
    clear e
    go_enter Tryd.func78, Tryd.ntmps78
    go_wp2_with (first
      | (refine wpList_alloc_row rfl 91 rfl .u8 256 W.heap.size rfl (by kernel_rfl) ?_; intro W1 R1 B1 z1)
      | (refine wpList_store_row rfl 91 (.tmp 4) (.tmp 13) rfl W.heap.size .u8 256 (oldF D.lo D.ob i) (fun _ => 0) rfl rfl R1 (by kernel_rfl) ?_; intro W2 R2 B2 z2))
    go_end0
    have B3 : Below W.heap.size W W2 := B1.trans (B2.below (Nat.le_refl _) (by omega))
    exact ⟨rfl, (HD.out.below B3).loosed' HE.out, Off.of B3⟩
  | false =>
    have HE : Hid (D.lo i = false) := e
    rw [e] at hlk
    clear e
    go_enter Tryd.func78, Tryd.ntmps78
    go_wp2_with (first
      | (refine wpList_alloc_row rfl 91 rfl .u8 256 W.heap.size rfl (by kernel_rfl) ?_; intro W1 R1 B1 z1)
      | (refine wpList_store_row rfl 91 (.tmp 4) (.tmp 13) rfl W.heap.size .u8 256 (oldF D.lo D.ob i) (fun _ => 0) rfl rfl R1 (by kernel_rfl) ?_; intro W2 R2 B2 z2))
    have B3 : Below W.heap.size W W2 := B1.trans (B2.below (Nat.le_refl _) (by omega))
    have D3 : DiskAt W2.drew d s m D := (HD.out.below B3).drew
    obtain ⟨c1', _⟩ := D3.recd.cel 1 _ rfl
    obtain ⟨c2', _⟩ := D3.recd.cel 2 _ rfl
    obtain ⟨W4, hr4, hM4, hO4⟩ := put_at (at256 D.sec i) D3.map hi h2
    have PP : Hid (DiskAt W4 d s m (D.loosen i) ∧ Off [m] W W4) := ⟨D3.loosed HE.out hi hM4 hO4, (Off.of B3.drew).trans hO4⟩
    have rng := sec_at D3 i hi
    have S4 : W4.cell? ⟨d, 1, none⟩ = some (.slice (some ⟨s, 0, none⟩) D.N D.C) ∧ W4.cell? ⟨d, 2, none⟩ = some (.map (some m)) ∧ W4.rangeAt s (i * 256) (cl .u8 256 (at256 D.sec i)) :=
      ⟨(PP.out.1.recd.cel 1 _ rfl).1, (PP.out.1.recd.cel 2 _ rfl).1, sec_at PP.out.1 i hi⟩
    clear D3 hM4 hO4 B3 B1 B2 R1 R2 hlk
    unfold secV at hr4
    refine wp_region_noPanic ?_
    refine wp_region_held_drew (S := fun W => W.cell? ⟨d, 1, none⟩ = some (.slice (some ⟨s, 0, none⟩) D.N D.C) ∧ W.cell? ⟨d, 2, none⟩ = some (.map (some m)) ∧ W.rangeAt s (i * 256) (cl .u8 256 (at256 D.sec i))) (by kernel_rfl) ?_ (fun hHeld => ?_)
    · exact ⟨c1', c2', rng⟩
    refine take_at (i := 0) (v := ?_) (some 17) rfl rfl (by kernel_rfl) (by kernel_rfl) (by kernel_rfl) (fun _ _ _ h => h) (Or.inl ⟨by rfl, ?_⟩) (by assumption) ?_
    rotate_left
    · (intro w hSw; (try dsimp only at hSw); obtain ⟨q1, q2, q3⟩ := hSw; clear q3; go_simp; try with_reducible rfl)
    simp only [Act.put, List.setIfInBounds_toArray, List.set_cons_zero, List.set_cons_succ]
    refine take_at (i := 1) (v := ?_) (some 18) rfl rfl (by kernel_rfl) (by kernel_rfl) (by kernel_rfl) (fun _ _ _ h => h) (Or.inl ⟨by rfl, ?_⟩) (by assumption) ?_
    rotate_left
    · (intro w hSw; (try dsimp only at hSw); obtain ⟨q1, q2, q3⟩ := hSw; clear q3; go_simp; try with_reducible rfl)
    simp only [Act.put, List.setIfInBounds_toArray, List.set_cons_zero, List.set_cons_succ]
    refine take_at (i := 2) (v := ?_) (some 19) rfl rfl (by kernel_rfl) (by kernel_rfl) (by kernel_rfl) (fun _ _ _ h => h) (Or.inl ⟨by rfl, ?_⟩) (by assumption) ?_
    rotate_left
    · (intro w hSw; (try dsimp only at hSw); obtain ⟨q1, q2, q3⟩ := hSw; clear q3; go_simp; try with_reducible rfl)
    simp only [Act.put, List.setIfInBounds_toArray, List.set_cons_zero, List.set_cons_succ]
    refine take_at (i := 3) (v := ?_) (some 20) rfl rfl (by kernel_rfl) (by kernel_rfl) (by kernel_rfl) (fun _ _ _ h => h) (Or.inl ⟨by rfl, ?_⟩) (by assumption) ?_
    rotate_left
    · (intro w hSw; (try dsimp only at hSw); obtain ⟨q1, q2, q3⟩ := hSw; clear q3; go_simp; try with_reducible rfl)
    simp only [Act.put, List.setIfInBounds_toArray, List.set_cons_zero, List.set_cons_succ]
    refine take_at (i := 4) (v := ?_) (some 21) rfl rfl (by kernel_rfl) (by kernel_rfl) (by kernel_rfl) (fun _ _ _ h => h) (Or.inl ⟨by rfl, ?_⟩) (by assumption) ?_
    rotate_left
    · (intro w hSw; (try dsimp only at hSw); obtain ⟨q1, q2, q3⟩ := hSw; clear q3; go_simp; try with_reducible rfl)
    simp only [Act.put, List.setIfInBounds_toArray, List.set_cons_zero, List.set_cons_succ]
    refine take_at (i := 5) (v := ?_) (some 22) rfl rfl (by kernel_rfl) (by kernel_rfl) (by kernel_rfl) (fun _ _ _ h => h) (Or.inl ⟨by rfl, ?_⟩) (by assumption) ?_
    rotate_left
    · (intro w hSw; (try dsimp only at hSw); obtain ⟨q1, q2, q3⟩ := hSw; clear q3; go_simp; try with_reducible rfl)
    simp only [Act.put, List.setIfInBounds_toArray, List.set_cons_zero, List.set_cons_succ]
    refine take_at (i := 6) (v := ?_) (some 23) rfl rfl (by kernel_rfl) (by kernel_rfl) (by kernel_rfl) (fun _ _ _ h => h) (Or.inl ⟨by rfl, ?_⟩) (by assumption) ?_
    rotate_left
    · (intro w hSw; (try dsimp only at hSw); obtain ⟨q1, q2, q3⟩ := hSw; clear q3; go_simp; try with_reducible rfl)
    simp only [Act.put, List.setIfInBounds_toArray, List.set_cons_zero, List.set_cons_succ]
    refine take_at (i := 7) (v := ?_) (some 24) rfl rfl (by kernel_rfl) (by kernel_rfl) (by kernel_rfl) (fun _ _ _ h => h) (Or.inl ⟨by rfl, ?_⟩) (by assumption) ?_
    rotate_left
    · (intro w hSw; (try dsimp only at hSw); obtain ⟨q1, q2, q3⟩ := hSw; clear q3; go_simp; try with_reducible rfl)
    simp only [Act.put, List.setIfInBounds_toArray, List.set_cons_zero, List.set_cons_succ]
    refine take_at (i := 8) (v := ?_) (some 25) rfl rfl (by kernel_rfl) (by kernel_rfl) (by kernel_rfl) (fun _ _ _ h => h) (Or.inl ⟨by rfl, ?_⟩) (by assumption) ?_
    rotate_left
    · (intro w hSw; (try dsimp only at hSw); obtain ⟨q1, q2, q3⟩ := hSw; clear q3; go_simp; try with_reducible rfl)
    simp only [Act.put, List.setIfInBounds_toArray, List.set_cons_zero, List.set_cons_succ]
    refine take_at (i := 9) (v := ?_) (some 26) rfl rfl (by kernel_rfl) (by kernel_rfl) (by kernel_rfl) (fun _ _ _ h => h) (Or.inl ⟨by rfl, ?_⟩) (by assumption) ?_
    rotate_left
    · (intro w hSw; (try dsimp only at hSw); obtain ⟨q1, q2, q3⟩ := hSw; clear q3; go_simp; try with_reducible rfl)
    simp only [Act.put, List.setIfInBounds_toArray, List.set_cons_zero, List.set_cons_succ]
    refine take_at (i := 10) (v := ?_) (some 27) rfl rfl (by kernel_rfl) (by kernel_rfl) (by kernel_rfl) (fun _ _ _ h => h) (Or.inl ⟨by rfl, ?_⟩) (by assumption) ?_
    rotate_left
    · (intro w hSw; (try dsimp only at hSw); obtain ⟨q1, q2, q3⟩ := hSw; clear q3; go_simp; try with_reducible rfl)
    simp only [Act.put, List.setIfInBounds_toArray, List.set_cons_zero, List.set_cons_succ]
    refine take_at (i := 11) (v := _) (some 28) rfl rfl (by kernel_rfl) (by kernel_rfl) (by kernel_rfl) (fun _ _ _ h => h) (yieldsIf_load_mid (by rfl) 91 (.tmp 27) rfl s (i * 256) rfl (cl .u8 256 (at256 D.sec i)) _ (fun _ h => h.2.2) Tryd.underlying91 rfl (by rw [cl_len]; kernel_rfl)) (by assumption) ?_
    simp only [Act.put, List.setIfInBounds_toArray, List.set_cons_zero, List.set_cons_succ]
    refine skip_at (i := 12) none rfl rfl (by rfl) (by kernel_rfl) W4 (mapup_run 41 (.tmp 20) (.tmp 21) (.tmp 28) rfl _ _ _ rfl rfl rfl hr4) S4 (fun hHeld => ?_)
    simp only [Act.put]
    refine wpAnyH_done (by kernel_rfl) ?_ _
    refine NoPanic.normal ?_
    go_wp2_with fail
    go_end0
    exact ⟨rfl, PP.out.1, PP.out.2⟩
end Go.Proofs.YtijpoipcadhchaaDoor
namespace Go.Proofs.YtijpoipcadhchaaDoor
open Go.RowKit Go.Maps
/-- A whole sector is stored. -/
theorem irow_put {W : World} {s N i : Nat} {F : Nat → Int} (g : Nat → Int) (h : IRow W s .u8 (N * 256) F) (hi : i < N) :
    ∃ W2, (Instr.storeAt 91 (.pointer (some ⟨s, i * 256, none⟩)) (secV g)).run Tryd.prog W = .ok () W2 ∧ IRow W2 s .u8 (N * 256) (putF F i g) ∧ But s W W2 := by
  have ht : W.there s (i * 256) (cl .u8 256 g).toArray.size := by
    intro j hj
    have hj' : j < 256 := by simpa [cl_len] using hj
    exact ⟨by rw [h.1 _ (by omega)]; rfl, h.2.1 _⟩
  refine ⟨_, run_storeAt_mid (P := Tryd.prog) W s (i * 256) 91 (cl .u8 256 g).toArray ht (by simp only [List.size_toArray, cl_len]; kernel_rfl) (all_oneCell_toArray (cl_one _ _ _)), ⟨fun j hj => ?_, fun j => by rw [World.frozen?_setCells]; exact h.2.1 j, Nat.lt_of_lt_of_le h.2.2 (But.cells _ _ _).size⟩, But.cells _ _ _⟩
  by_cases e : j / 256 = i
  · have hr := World.rangeAt_setCells_same W s (i * 256) (cl .u8 256 g) (by simpa using ht) (j % 256) _ (cl_at .u8 256 g (j % 256) (by omega))
    rw [show i * 256 + j % 256 = j by omega] at hr
    unfold putF
    rw [if_pos e]
    exact hr
  · unfold putF
    rw [if_neg e, World.cell?_setCells_out s _ _ _ _ (fun _ _ => by simp only [cl_len]; omega)]
    exact h.1 j hj
/-- A disk of which sector i is written as g. -/
def Dsk.step (D : Dsk) (i : Nat) (g : Nat → Int) : Dsk := { D.loosen i with sec := putF D.sec i g }
theorem DiskAt.stepped {W W2 : World} {d s m i : Nat} {D : Dsk} {g : Nat → Int} (h : DiskAt W d s m (D.loosen i)) (hr : IRow W2 s .u8 (D.N * 256) (putF D.sec i g)) (hB : But s W W2) (hg : ∀ j, j < 256 → 0 ≤ g j ∧ g j < 256) : DiskAt W2 d s m (D.step i g) := by
  have O : Off [s] W W2 := Off.but hB (by simp)
  have hN : (D.step i g).N = D.N := rfl
  refine { recd := h.recd.off O (by have := h.ds; simp; omega), row := hr, map := h.map.off O (by have := h.sm; simp; omega), sb := fun j hj => ?_, obb := h.obb, n1 := h.n1, n2 := h.n2, ds := h.ds, dm := h.dm, sm := h.sm }
  show 0 ≤ putF D.sec i g j ∧ putF D.sec i g j < 256
  unfold putF
  split
  · exact hg _ (by omega)
  · exact h.sb j hj
/-- A disk of which k sectors from a on are written as F has them. -/
def Dsk.wrote (D : Dsk) (a : Nat) (F : Nat → Int) : Nat → Dsk
  | 0 => D
  | k + 1 => (D.wrote a F k).step (a + k) (fun j => F (k * 256 + j))
theorem Dsk.wrote_N (D : Dsk) (a : Nat) (F : Nat → Int) : ∀ k, (D.wrote a F k).N = D.N
  | 0 => rfl
  | k + 1 => D.wrote_N a F k
theorem Dsk.wrote_fz (D : Dsk) (a : Nat) (F : Nat → Int) : ∀ k, (D.wrote a F k).fz = D.fz
  | 0 => rfl
  | k + 1 => D.wrote_fz a F k
theorem Dsk.wrote_ops (D : Dsk) (a : Nat) (F : Nat → Int) : ∀ k, (D.wrote a F k).ops = D.ops
  | 0 => rfl
  | k + 1 => D.wrote_ops a F k
/-- .. of which pieces in whatever order are written. -/
def wrP {c : Nat} (D : Dsk) (a : Nat) (F : Nat → Int) (pre : List (Fin c)) : Nat × Dsk := pre.foldl (fun p x => (p.1 + 1, p.2.step p.1 (fun j => F (x.1 * 256 + j)))) (a, D)
theorem wrP_snoc {c : Nat} (D : Dsk) (a : Nat) (F : Nat → Int) (pre : List (Fin c)) (x : Fin c) : wrP D a F (pre ++ [x]) = ((wrP D a F pre).1 + 1, (wrP D a F pre).2.step (wrP D a F pre).1 (fun j => F (x.1 * 256 + j))) := by
  unfold wrP
  rw [List.foldl_append]
  rfl
theorem wrP_one {c : Nat} (F : Nat → Int) : ∀ (pre : List (Fin c)) (D : Dsk) (a : Nat), (wrP D a F pre).1 = a + pre.length ∧ (wrP D a F pre).2.N = D.N
  | [], _, _ => ⟨rfl, rfl⟩
  | x :: pre, D, a => by
    have ih := wrP_one F pre (D.step a (fun j => F (x.1 * 256 + j))) (a + 1)
    refine ⟨?_, ih.2⟩
    show (wrP (D.step a (fun j => F (x.1 * 256 + j))) (a + 1) F pre).1 = a + (pre.length + 1)
    rw [ih.1]
    omega
theorem wrP_all {c : Nat} (D : Dsk) (a : Nat) (F : Nat → Int) : ∀ k, k ≤ c → (wrP D a F (upTo c k)).2 = D.wrote a F k
  | 0, _ => rfl
  | k + 1, hk => by
    rw [upTo_succ c k (by omega), wrP_snoc]
    show (wrP D a F (upTo c k)).2.step (wrP D a F (upTo c k)).1 _ = (D.wrote a F k).step (a + k) _
    rw [wrP_all D a F k (by omega), (wrP_one F (upTo c k) D a).1, upTo_length c k (by omega)]
theorem store_skip {a : Act} {w : World} {o : Oper} (t : TypeId) (x v : Operand) (hop : o.op = .store t x v) (X V : Value) (hx : a.eval x = X) (hv : a.eval v = V) {w' : World} (hr : (Instr.storeAt t X V).run Tryd.prog w = .ok () w') :
    (execOp a.eval o).run Tryd.prog w = .ok .skip w' := by
  simp [execOp, hop, hx, hv, hr, Result.andThen]
theorem arr_run {a : Act} {w : World} {o : Oper} (x : Operand) (hop : o.op = .sliceToArrayPointer 91 x) (A : Option Addr) (C : Nat) (hx : a.eval x = .slice A 256 C) :
    (execOp a.eval o).run Tryd.prog w = .ok (.value (.pointer A)) w := by
  have h := run_arrayAt (P := Tryd.prog) w 91 5 256 A 256 C Tryd.underlying91 (Nat.le_refl _)
  simp [execOp, hop, hx, h, Result.andThen]
end Go.Proofs.YtijpoipcadhchaaDoor
namespace Go.Proofs.YtijpoipcadhchaaDoor
open Go.RowKit Go.Shelf
attribute [local go_sem] Oper.semAt_some
section
variable {P : Program} {F : Fence} {n : Nat} {ops : Array Oper} {rest : List Oper} {o : Oper} {a : Act} {w w' : World} {Q : Exit → Act → World → Prop}
/-- An operation in a fence, its run known. -/
theorem wpListIn_run (hg : o.guard = none) (hd : ∀ c, o.op ≠ .defer c) (ha : o.about P w a.eval = none) (v : Value) (hx : (execOp a.eval o).run P w = .ok (.value v) w') (hK : wpListIn F n P ops Q rest (a.put o.dst v) w') : wpListIn F n P ops Q (o :: rest) a w := by
  refine wpListIn_plain hg fun K hK' => ?_
  unfold Oper.wpIn
  refine ⟨fun f hf => (by rw [ha] at hf; cases hf), ?_⟩
  rw [Oper.semAt_plain F _ _ hd, hx]
  exact hK' _ _ hK
theorem wpListIn_mute (hg : o.guard = none) (hd : ∀ c, o.op ≠ .defer c) (ha : o.about P w a.eval = none) (hx : (execOp a.eval o).run P w = .ok .skip w') (hK : wpListIn F n P ops Q rest (a.put o.dst undef) w') : wpListIn F n P ops Q (o :: rest) a w := by
  refine wpListIn_plain hg fun K hK' => ?_
  unfold Oper.wpIn
  refine ⟨fun f hf => (by rw [ha] at hf; cases hf), ?_⟩
  rw [Oper.semAt_plain F _ _ hd, hx]
  exact hK' _ _ hK
theorem load_run (ty : TypeId) (x : Operand) (ho : o.op = .load ty x) (b off : Nat) (cs : List Value) (hx : a.eval x = .pointer (some ⟨b, off, none⟩)) (d : TypeDesc) (hr : w.rangeAt b off cs) (hu : Tryd.prog.underlying ty = some d) (hd : d.isRow = true) (hi : (Tryd.prog.info? ty).map (·.size) = some cs.length) :
    (execOp a.eval o).run Tryd.prog w = .ok (.value (.agg cs.toArray)) w := by
  unfold execOp
  simp only [ho, hx, Instr.loadAt, Instr.sureAddr, Sem.run_bind, Sem.run_pure, Result.andThen_ok, run_loadVar_mid w b off ty cs d hr hu hd hi]
/-- A load of a whole array or struct, in a fence. -/
theorem wpListIn_load_at (hg : o.guard = none) (ty : TypeId) (x : Operand) (ho : o.op = .load ty x)
    (b off : Nat) (cs : List Value) (hx : a.eval x = .pointer (some ⟨b, off, none⟩)) (d : TypeDesc) (hr : w.rangeAt b off cs) (hu : Tryd.prog.underlying ty = some d) (hd : d.isRow = true) (hi : (Tryd.prog.info? ty).map (·.size) = some cs.length)
    (hK : wpListIn F n Tryd.prog ops Q rest (a.put o.dst (.agg cs.toArray)) w) : wpListIn F n Tryd.prog ops Q (o :: rest) a w :=
  wpListIn_run hg (by rw [ho]; intro c hc; cases hc) (by simp [Oper.about, ho]) _ (load_run ty x ho b off cs hx d hr hu hd hi) hK
/-- A new array of numbers, in a fence. -/
theorem wpListIn_alloc_row (hg : o.guard = none) (ty : TypeId) (ho : o.op = .alloc ty) (k : IntKind) (N : Nat) (hz : (Tryd.prog.info? ty).bind (·.zero) = some (.agg (cl k N fun _ => 0).toArray))
    (hK : ∀ W, IRow W w.heap.size k N (fun _ => 0) → Below w.heap.size w W → W.heap.size = w.heap.size + 1 → KeepsOthers w W → wpListIn F n Tryd.prog ops Q rest (a.put o.dst (.pointer (some ⟨w.heap.size, 0, none⟩))) W) : wpListIn F n Tryd.prog ops Q (o :: rest) a w := by
  refine wpListIn_run hg (by rw [ho]; intro c hc; cases hc) (by simp [Oper.about, ho]) (.pointer (some ⟨w.heap.size, 0, none⟩)) (w' := w.alloc (.cells (cl k N fun _ => 0).toArray ty)) ?_ (hK _ (IRow.new w ty k N fun _ => 0) ((Below.refl _ _).alloc (Nat.le_refl _) _) (by simp) (KeepsOthers.alloc _ _))
  unfold execOp
  cases hi : Tryd.prog.info? ty with
  | none => simp [hi] at hz
  | some i =>
    have hz' : i.zero = some (.agg (cl k N fun _ => 0).toArray) := by simpa [hi] using hz
    simp only [ho]
    simp [Instr.alloc, zeroValue, typeInfo, hi, hz', newVar, newRow, Value.cells, Result.andThen]
theorem wpListIn_alloc_rec (hg : o.guard = none) (ty : TypeId) (ho : o.op = .alloc ty) (cs : List Value) (hz : (Tryd.prog.info? ty).bind (·.zero) = some (.agg cs.toArray))
    (hK : ∀ W, Rec19 W w.heap.size 0 cs → Below w.heap.size w W → W.heap.size = w.heap.size + 1 → KeepsOthers w W → wpListIn F n Tryd.prog ops Q rest (a.put o.dst (.pointer (some ⟨w.heap.size, 0, none⟩))) W) : wpListIn F n Tryd.prog ops Q (o :: rest) a w := by
  refine wpListIn_run hg (by rw [ho]; intro c hc; cases hc) (by simp [Oper.about, ho]) (.pointer (some ⟨w.heap.size, 0, none⟩)) (w' := w.alloc (.cells cs.toArray ty)) ?_ (hK _ (Rec19.new w ty cs) ((Below.refl _ _).alloc (Nat.le_refl _) _) (by simp) (KeepsOthers.alloc _ _))
  unfold execOp
  cases hi : Tryd.prog.info? ty with
  | none => simp [hi] at hz
  | some i =>
    have hz' : i.zero = some (.agg cs.toArray) := by simpa [hi] using hz
    simp only [ho]
    simp [Instr.alloc, zeroValue, typeInfo, hi, hz', newVar, newRow, Value.cells, Result.andThen]
theorem keeps_cells (b : Nat) : ∀ (vs : List Value) (off : Nat) (W : World), KeepsOthers W (W.setCells b off vs)
  | [], _, W => KeepsOthers.refl W
  | v :: vs, off, W => (KeepsOthers.setCell W ⟨b, off, none⟩ v).trans (keeps_cells b vs (off + 1) _)
theorem store_run (ty : TypeId) (x y : Operand) (ho : o.op = .store ty x y) (b off : Nat) (cs vs : List Value) (hx : a.eval x = .pointer (some ⟨b, off, none⟩)) (hy : a.eval y = .agg vs.toArray)
    (h : Rec19 w b off cs) (hl : cs.length = vs.length) (hi : (Tryd.prog.info? ty).map (·.size) = some vs.length) (h1 : ∀ v ∈ vs, v.oneCell' = true) : (execOp a.eval o).run Tryd.prog w = .ok .skip (w.setCells b off vs) := by
  have := run_storeAt_mid (P := Tryd.prog) w b off ty vs.toArray (by simpa [hl] using h.2.1) (by simpa using hi) (all_oneCell_toArray h1)
  simp [execOp, ho, hx, hy, this, Result.andThen]
/-- A whole array or struct is stored, in a fence. -/
theorem wpListIn_store_rec (hg : o.guard = none) (ty : TypeId) (x y : Operand) (ho : o.op = .store ty x y) (b off : Nat) (cs vs : List Value) (hx : a.eval x = .pointer (some ⟨b, off, none⟩)) (hy : a.eval y = .agg vs.toArray)
    (h : Rec19 w b off cs) (hl : cs.length = vs.length) (hi : (Tryd.prog.info? ty).map (·.size) = some vs.length) (h1 : ∀ v ∈ vs, v.oneCell' = true)
    (hK : ∀ W, Rec19 W b off vs → But b w W → W.heap.size = w.heap.size → KeepsOthers w W → wpListIn F n Tryd.prog ops Q rest (a.put o.dst undef) W) : wpListIn F n Tryd.prog ops Q (o :: rest) a w :=
  wpListIn_mute hg (by rw [ho]; intro c hc; cases hc) (by simp [Oper.about, ho]) (store_run ty x y ho b off cs vs hx hy h hl hi h1) (hK _ (h.store vs hl) (But.cells _ _ _) (size_cells _ _ _ _) (keeps_cells _ _ _ _))
end
/-- How the body of a round may be left. -/
def rndPost (B : Nat) (I : Nat → World → Prop) (Ix : Code → World → Prop) (k : Nat) (W : World) : Exit → Act → World → Prop
  | .normal, _, W' => KeepsFrom B W W' ∧ I (k + 1) W'
  | .ret, _, W' => KeepsFrom B W W' ∧ Ix .ret W'
  | .exit id, _, W' => KeepsFrom B W W' ∧ Ix (.exit id) W'
  | _, _, _ => False
theorem But.putObj (W : World) (l : Nat) (o : Obj) : But l W (W.putObj l o) := ⟨rfl, rfl, rfl, by simp [World.putObj], fun k _ hn => World.putObj_heap_other hn⟩
/-- A parameter of several cells is boxed, in a fence. -/
theorem wpListIn_box_rec {F : Fence} {n : Nat} {ops : Array Oper} {rest : List Oper} {o : Oper} {a : Act} {w : World} {Q : Exit → Act → World → Prop} (hg : o.guard = none) (ty : TypeId) (x : Operand) (ho : o.op = .box ty x) (cs : List Value) (hx : a.eval x = .agg cs.toArray)
    (hK : ∀ W, Rec19 W w.heap.size 0 cs → Below w.heap.size w W → W.heap.size = w.heap.size + 1 → wpListIn F n Tryd.prog ops Q rest (a.put o.dst (.pointer (some ⟨w.heap.size, 0, none⟩))) W) : wpListIn F n Tryd.prog ops Q (o :: rest) a w := by
  refine wpListIn_run hg (by rw [ho]; intro c hc; cases hc) (by simp [Oper.about, ho]) (.pointer (some ⟨w.heap.size, 0, none⟩)) (w' := w.alloc (.cells cs.toArray ty)) ?_ (hK _ (Rec19.new w ty cs) ((Below.refl _ _).alloc (Nat.le_refl _) _) (by simp))
  unfold execOp
  simp only [ho, hx]
  simp [Instr.box, newVar, newRow, Value.cells, Result.andThen]
theorem row_off {B : Nat} {X Y : World} {row : Option Nat} (hg : X.grownBy Y row) (hr : ∀ r, row = some r → B ≤ r ∧ ∃ o : Obj, X.heap[r]? = some o ∧ o.isCells = false) : Off row.toList X Y ∧ ∀ b, b ∈ row.toList → B ≤ b :=
  ⟨Off.grown hg (fun r e => by rw [e]; simp), fun b hb => (hr b (fz_mem hb)).1⟩
end Go.Proofs.YtijpoipcadhchaaDoor
namespace Go.Proofs.YtijpoipcadhchaaDoor
open Go.RowKit Go.Shelf
attribute [local go_sem] Oper.semAt_some
/-- The closure's boxes, and the bytes of both rings. -/
structure JMem (Bs Bp g : Nat) (G : Nat → Int) (W : World) : Prop where
  ch : W.cell? ⟨Bs, 0, none⟩ = some (.slice (some ⟨g, 0, none⟩) 4096 24576)
  cp : W.cell? ⟨Bp, 0, none⟩ = some (.slice (some ⟨g, 4096, none⟩) 20480 20480)
  l : Lies W g 0 24576 G
  tab : Tab W
/-- How a slot is, by these bytes. -/
def slotL (G : Nat → Int) (k : Nat) : List Value := judgeL 256 (fun j => G (k * 256 + j)) 1280 (fun j => G (4096 + k * 1280 + j)) (k : Int)
set_option maxRecDepth 100000 in
set_option maxHeartbeats 2000000 in
theorem judged1_in (n : Nat) (hn : 1 ≤ n) (l Bs Bp g : Nat) (G : Nat → Int) (NG : ∀ k, k < 16 → NgOk (some ⟨g, 4096 + k * 1280, none⟩) 1280 (20480 - k * 1280) (fun j => G (4096 + k * 1280 + j))) (J : Nat → World → Prop) (Jx : World → Prop) (hM : ∀ k W, J k W → JMem Bs Bp g G W) (hB : ∀ k W W', J k W → Below W.heap.size W W' → J k W')
    (hY : ∀ k W, k < 16 → J k W → YieldAt Fence.wide (n - 1) Tryd.prog l #[.int .i64 (k : Int), .agg (slotL G k).toArray] W fun e W' => (e = .returned (.bool true) ∧ J (k + 1) W') ∨ (e = .returned (.bool false) ∧ Jx W'))
    (W : World) (h0 : J 0 W) :
    CallsIn Fence.wide n Tryd.prog 46 #[.func (.yield l) #[] #[], .pointer (some ⟨Bs, 0, none⟩), .pointer (some ⟨Bp, 0, none⟩)] W fun e W' => (∃ v, e = .returned v) ∧ (J 16 W' ∨ Jx W') := by
  refine callsIn_of_wp Tryd.func46 rfl trivial ?_ rfl
  simp only [Tryd.ntmps46, List.size_toArray, List.length_cons, List.length_nil, Nat.reduceAdd, Nat.reduceSub, Array.replicate_succ, Array.replicate_zero, List.push_toArray, List.append_toArray, List.nil_append, List.cons_append]
  gi_wp2
  gi_loopw [7] (fun i wr => ∃ k : Nat, k ≤ 16 ∧ i = .int .i64 (k : Int) ∧ J k wr) (fun i _ => 16 - (RowKit.intOf i).toNat)
  case atStart => exact ⟨0, Nat.zero_le _, rfl, h0⟩
  case round =>
    obtain ⟨k, hk, rfl, hJ⟩ := hrel
    by_cases hlt : k < 16
    · have M := hM k wr hJ
      have c1 := M.ch
      have c2 := M.cp
      have d1 : wr.drew.cell? ⟨Bs, 0, none⟩ = some (.slice (some ⟨g, 0, none⟩) 4096 24576) := M.ch
      have d2 : wr.drew.cell? ⟨Bp, 0, none⟩ = some (.slice (some ⟨g, 4096, none⟩) 20480 20480) := M.cp
      have JD : Hid (∀ u, Below wr.heap.size wr u → Calls Tryd.prog 47 #[.slice (some ⟨g, k * 256, none⟩) 256 (24576 - k * 256), .slice (some ⟨g, 4096 + k * 1280, none⟩) 1280 (20480 - k * 1280), .int .i64 (k : Int)] u fun e w' => e = .returned (.agg (slotL G k).toArray) ∧ Below u.heap.size u w') := fun u hu => by
        have M' := hM k u (hB k wr u hJ hu)
        have a1 := Arg.part M'.l (k * 256) 256 (by omega)
        have a2 := Arg.part M'.l (4096 + k * 1280) 1280 (by omega)
        rw [Nat.zero_add] at a1 a2
        exact judge_any _ _ 256 (24576 - k * 256) 1280 (20480 - k * 1280) _ _ (k : Int) u M'.tab a1 a2 (by omega) (by omega) (by omega) (NG k hlt)
      have HJ : Hid (J k wr) := hJ
      clear M
      have i0 : (k : Int) < 16 := by omega
      have i1 : (0 : Int) ≤ (k : Int) * 256 := by omega
      have i2 : ((k : Int) * 256).toNat = k * 256 := by omega
      have i3 : (k : Int) * 256 ≤ 4096 := by omega
      have i4 : ¬ 24576 = k * 256 := by omega
      have i5 : (0 : Int) ≤ (k : Int) * 1280 := by omega
      have i6 : ((k : Int) * 1280).toNat = k * 1280 := by omega
      have i7 : (k : Int) * 1280 ≤ 20480 := by omega
      have i8 : ¬ 20480 = k * 1280 := by omega
      have i9 : IntKind.i64.wrap ((k : Int) * 256) = (k : Int) * 256 := by rw [IntKind.wrap_i64]; omega
      have i10 : wrap64 ((k : Int) * 256) = (k : Int) * 256 := by unfold wrap64; omega
      have i11 : IntKind.i64.wrap ((k : Int) * 1280) = (k : Int) * 1280 := by rw [IntKind.wrap_i64]; omega
      have i12 : wrap64 ((k : Int) * 1280) = (k : Int) * 1280 := by unfold wrap64; omega
      have i13 : (256 : Int) ≤ ((24576 - k * 256 : Nat) : Int) := by omega
      have i14 : (1280 : Int) ≤ ((20480 - k * 1280 : Nat) : Int) := by omega
      clear hJ h0
      gi_wp2
      gi_region
      gi_wp2
      refine ⟨trivial, ?_⟩
      refine CallsIn.mono ((callsIn_wide (n := _)).2 (JD.out _ (Below.refl _ _).drew)) ?_
      rintro e W2 ⟨rfl, B2⟩
      obtain ⟨fn, tmps, assign, body, hy, hR⟩ := hY k W2 hlt (hB k wr.drew W2 (hB k wr wr.drew HJ.out (Below.refl _ _).drew) B2)
      clear B2
      gi_wp2
      refine hR.mono ?_
      rintro e W3 (⟨rfl, hJ3⟩ | ⟨rfl, hJx3⟩)
      · gi_wp2
        go_roundw
        case rel => exact ⟨k + 1, by omega, by go_num, hJ3⟩
        case measure => simp [RowKit.intOf]; omega
      · gi_wp2
        refine bodyPost_ret (results_none rfl _ _ _) rfl ?_
        exact ⟨⟨_, rfl⟩, .inr hJx3⟩
    · obtain rfl : k = 16 := by omega
      have i0 : ¬ (16 : Int) < 16 := by omega
      rw [show ((16 : Nat) : Int) = 16 from rfl]
      gi_wp2
      go_end0
      exact ⟨⟨_, rfl⟩, .inl hJ⟩
/-- A range over the slots, outside of every other such loop. -/
theorem range_judged {m : Nat} {gop : Operand} (p1 p2 : Tmp) {assign body : Code} {Q : Exit → Act → World → Prop} {a : Act} {w : World} (hm : 2 ≤ m) (Bs Bp g : Nat) (G : Nat → Int) (NG : ∀ k, k < 16 → NgOk (some ⟨g, 4096 + k * 1280, none⟩) 1280 (20480 - k * 1280) (fun j => G (4096 + k * 1280 + j)))
    (hg : a.eval gop = .func (.func 46) #[] #[.pointer (some ⟨Bs, 0, none⟩), .pointer (some ⟨Bp, 0, none⟩)]) (I : Nat → World → Prop) (Ix : Code → World → Prop) (hI : OwnFrom w.heap.size I) (hIx : OwnFrom w.heap.size Ix) (hM : ∀ k W, I k W → JMem Bs Bp g G W) (hIB : ∀ k W W', I k W → Below W.heap.size W W' → I k W') (h0 : I 0 w)
    (hround : ∀ (l k : Nat) (W : World), k < 16 → I k W → w.heap.size ≤ l → l < W.heap.size → (∃ r, W.heap[l]? = some (.loop r)) → assign.wpIn (Fence.wide.inRound l) (m - 1 - 1) Tryd.prog
      (Exit.then (fun a₁ W₁ => KeepsFrom w.heap.size W W₁ ∧ ∀ W₂, But l W₁ W₂ → W₂.heap.size = W₁.heap.size → body.wpIn (Fence.wide.inRound l) (m - 1 - 1) Tryd.prog (rndPost w.heap.size I Ix k W₂) a₁ W₂) (fun _ _ _ => False))
      { tmps := (a.tmps.setIfInBounds p1 (.int .i64 (k : Int))).setIfInBounds p2 (Value.agg (slotL G k).toArray), defers := [] } W)
    (hdone : ∀ (D : Nat) (W : World), w.heap.size ≤ D → I 16 W → W.heap[D]? = some (.deferred (some [])) → Q .normal { a with defers := { target := .collected D, args := #[] } :: a.defers } W)
    (hstop : ∀ (D : Nat) (c : Code) (W : World), w.heap.size ≤ D → Ix c W → W.heap[D]? = some (.deferred (some [])) → c.wpIn Fence.wide m Tryd.prog Q { a with defers := { target := .collected D, args := #[] } :: a.defers } W) :
    (Code.rangeFunc gop #[p1, p2] assign body).wpIn Fence.wide m Tryd.prog Q a w := by
  refine wpIn_rangeFunc fun fn hfn => ?_
  obtain ⟨rc, hrc⟩ : ∃ rc : LoopState → Option Code → Loop, rc = fun st pe => { state := st, pending := pe, fn, tmps := a.tmps, params := #[p1, p2], assign, body, defers := w.heap.size } := ⟨_, rfl⟩
  obtain ⟨V, hV⟩ : ∃ V, (w.alloc (.deferred (some []))).alloc (.loop (rc .ready none)) = V := ⟨_, rfl⟩
  have cL : V.heap[w.heap.size + 1]? = some (.loop (rc .ready none)) := by
    rw [← hV]
    have := World.alloc_heap_new (w.alloc (.deferred (some []))) (.loop (rc .ready none))
    rwa [World.size_alloc] at this
  have cD : V.heap[w.heap.size]? = some (.deferred (some [])) := by
    rw [← hV]
    exact (Below.heap_alloc _ _ _ (by simp)).trans (World.alloc_heap_new w _)
  have iV : I 0 V := by rw [← hV]; exact hI.alloc _ (hI.alloc _ h0)
  refine ⟨w.heap.size + 1, [{ target := .collected w.heap.size, args := #[] }], V, { target := .fn (.func 46) #[.pointer (some ⟨Bs, 0, none⟩), .pointer (some ⟨Bp, 0, none⟩)], args := #[.func (.yield (w.heap.size + 1)) #[] #[]] }, V, 46,
    #[.func (.yield (w.heap.size + 1)) #[] #[], .pointer (some ⟨Bs, 0, none⟩), .pointer (some ⟨Bp, 0, none⟩)], V, ?_, ?_, fun _ _ => trivial, ?_, fun _ => by omega, ?_⟩
  · rw [← hV, hrc]
    exact run_enterLoop_outer _ _ _ _ _
  · simp only [resolve, hg]
    simp [go_sem]
  · simp [invoke, go_sem]
  · refine (judged1_in (m - 1) (by omega) (w.heap.size + 1) Bs Bp g G NG
      (fun k W => I k W ∧ W.heap[w.heap.size + 1]? = some (.loop (rc .ready none)) ∧ W.heap[w.heap.size]? = some (.deferred (some [])))
      (fun W => ∃ c, Ix c W ∧ W.heap[w.heap.size + 1]? = some (.loop (rc .done (some c))) ∧ W.heap[w.heap.size]? = some (.deferred (some [])))
      (fun k W h => hM k W h.1) (fun k W W' h hb => ⟨hIB k W W' h.1 hb, (hb.block _ (Array.getElem?_eq_some_iff.1 h.2.1).1).trans h.2.1, (hb.block _ (Array.getElem?_eq_some_iff.1 h.2.2).1).trans h.2.2⟩) ?_ V ⟨iV, cL, cD⟩).mono ?_
    · rintro k W hk16 ⟨hi, hl, hd⟩
      have lt : w.heap.size + 1 < W.heap.size := (Array.getElem?_eq_some_iff.1 hl).1
      have hy := run_yield (P := Tryd.prog) (args := #[.int .i64 (k : Int), Value.agg (slotL G k).toArray]) hl (by rw [hrc]; rfl)
      rw [hrc] at hy
      have hy2 : (Instr.yield (w.heap.size + 1) #[.int .i64 (k : Int), Value.agg (slotL G k).toArray]).run Tryd.prog W = .ok (.round (w.heap.size + 1) fn ((a.tmps.setIfInBounds p1 (.int .i64 (k : Int))).setIfInBounds p2 (Value.agg (slotL G k).toArray)) assign body) W := by
        rw [hy]
        simp
      refine ⟨fn, _, assign, body, hy2, roundIn_of_wpIn hfn (wpIn_mono (hround (w.heap.size + 1) k W hk16 hi (by omega) lt ⟨_, hl⟩) ?_)⟩
      intro e a₁ W₁ hE
      cases e with
      | normal =>
        obtain ⟨kf, hb⟩ := hE
        have hl1 := kf.same _ _ (by omega) hl rfl
        have hd1 := kf.same _ _ (Nat.le_refl _) hd rfl
        have hl2 := World.putObj_heap_same (w := W₁) (o := .loop { rc .ready none with state := .busy }) (Array.getElem?_eq_some_iff.1 hl1).1
        have hd2 : (W₁.putObj (w.heap.size + 1) (.loop { rc .ready none with state := .busy })).heap[w.heap.size]? = some (.deferred (some [])) := (World.putObj_heap_other (by omega)).trans hd1
        refine ⟨_, run_beginRound hl1 (by rw [hrc]), wpIn_mono (hb _ (But.putObj W₁ _ _) (by simp [World.putObj])) ?_⟩
        have fin : ∀ (jump : Option Code) (W3 : World), KeepsFrom w.heap.size (W₁.putObj (w.heap.size + 1) (.loop { rc .ready none with state := .busy })) W3 →
            (Instr.endRound (w.heap.size + 1) jump).run Tryd.prog W3 = .ok (.bool jump.isNone) (W3.putObj (w.heap.size + 1) (.loop (rc (if jump.isNone then .ready else .done) jump))) ∧
            W3.heap[w.heap.size + 1]? = some (.loop { rc .ready none with state := .busy }) ∧
            (W3.putObj (w.heap.size + 1) (.loop (rc (if jump.isNone then .ready else .done) jump))).heap[w.heap.size + 1]? = some (.loop (rc (if jump.isNone then .ready else .done) jump)) ∧
            (W3.putObj (w.heap.size + 1) (.loop (rc (if jump.isNone then .ready else .done) jump))).heap[w.heap.size]? = some (.deferred (some [])) := fun jump W3 k3 => by
          have l3 := k3.same _ _ (by omega) hl2 rfl
          have r3 := run_endRound (P := Tryd.prog) jump l3
          rw [hrc] at r3 l3 ⊢
          exact ⟨r3, l3, World.putObj_heap_same (Array.getElem?_eq_some_iff.1 l3).1, (World.putObj_heap_other (by omega)).trans (k3.same _ _ (Nat.le_refl _) hd2 rfl)⟩
        intro e a3 W3 hp
        cases e with
        | normal =>
          obtain ⟨k3, i3⟩ := hp
          obtain ⟨r, l3, l4, d4⟩ := fin none W3 k3
          exact ⟨_, _, r, .inl ⟨rfl, hI.putObj _ i3 (by omega) l3 rfl, l4, d4⟩⟩
        | ret =>
          obtain ⟨k3, i3⟩ := hp
          obtain ⟨r, l3, l4, d4⟩ := fin (some .ret) W3 k3
          exact ⟨_, _, r, .inr ⟨rfl, .ret, hIx.putObj _ i3 (by omega) l3 rfl, l4, d4⟩⟩
        | exit id =>
          obtain ⟨k3, i3⟩ := hp
          obtain ⟨r, l3, l4, d4⟩ := fin (some (.exit id)) W3 k3
          exact ⟨_, _, r, .inr ⟨rfl, .exit id, hIx.putObj _ i3 (by omega) l3 rfl, l4, d4⟩⟩
        | goto t => exact hp.elim
        | panic ch => exact hp.elim
        | outgrown => exact hp.elim
      | _ => exact hE.elim
    · rintro e W2 ⟨⟨v, rfl⟩, (⟨hi, hl, hd⟩ | ⟨c, hi, hl, hd⟩)⟩
      · exact ⟨none, _, by have := run_endLoop (P := Tryd.prog) hl (by rw [hrc]; simp); rw [hrc] at this; exact this, hdone _ _ (Nat.le_refl _) (hI.putObj _ hi (by omega) hl rfl) ((World.putObj_heap_other (by omega)).trans hd)⟩
      · exact ⟨some c, _, by have := run_endLoop (P := Tryd.prog) hl (by rw [hrc]; simp); rw [hrc] at this; exact this, hstop _ c _ (Nat.le_refl _) (hIx.putObj _ hi (by omega) hl rfl) ((World.putObj_heap_other (by omega)).trans hd)⟩
end Go.Proofs.YtijpoipcadhchaaDoor
namespace Go.Proofs.YtijpoipcadhchaaDoor
open Go.RowKit Go.Maps Go.Shelf
attribute [local go_sem] Oper.semAt_some
/-- What holds while the pieces come. -/
def wrI (W0 : World) (B d s m B3 B4 b off c a : Nat) (D : Dsk) (f : Nat → Int) (pre : List (Fin c)) (W : World) : Prop :=
  DiskAt W d s m (wrP D a f pre).2 ∧ W.cell? ⟨B3, 0, none⟩ = some (.pointer (some ⟨d, 0, none⟩)) ∧ W.cell? ⟨B4, 0, none⟩ = some (.int .i64 ((wrP D a f pre).1 : Int)) ∧ W.frozen? ⟨B4, 0, none⟩ = false ∧ Lies W b off (c * 256) f ∧ Off [s, m, B4] W0 W ∧ B ≤ W.heap.size ∧ B3 < W.heap.size ∧ B4 < W.heap.size
theorem Lies.off {u v : World} {b off n : Nat} {bs : List Nat} {f : Nat → Int} (h : Lies u b off n f) (hb : Off bs u v) (hn : b ∉ bs) : Lies v b off n f :=
  ⟨fun j hj => (hb.cell (p := ⟨b, off + j, none⟩) h.2.2 hn).trans (h.1 j hj), h.2.1, Nat.lt_of_lt_of_le h.2.2 hb.size⟩
theorem wrI_own (W0 : World) (B d s m B3 B4 b off c a : Nat) (D : Dsk) (f : Nat → Int) (h0 : W0.heap.size ≤ B) (h1 : d < B) (h2 : s < B) (h3 : m < B) (h4 : B3 < B) (h5 : B4 < B) (h6 : b < B) : OwnFrom (β := List (Fin c)) B (wrI W0 B d s m B3 B4 b off c a D f) := by
  rintro pre X Y row ⟨k1, k2, k3, k4, k5, k6, k7, k8, k9⟩ hg hr
  have O : Off row.toList X Y := Off.grown hg (fun r e => by rw [e]; simp)
  have no : ∀ k, k < B → k ∉ row.toList := fun k hk q => by
    have := (hr k (fz_mem q)).1
    omega
  refine ⟨k1.off O (no _ h1) (no _ h2) (no _ h3), (O.cell (p := ⟨B3, 0, none⟩) k8 (no _ h4)).trans k2, (O.cell (p := ⟨B4, 0, none⟩) k9 (no _ h5)).trans k3, (O.frozen (p := ⟨B4, 0, none⟩) k9 (no _ h5)).trans k4, k5.off O (no _ h6), k6.far O (fun r q => .inr ?_), Nat.le_trans k7 O.size, Nat.lt_of_lt_of_le k8 O.size, Nat.lt_of_lt_of_le k9 O.size⟩
  have := (hr r (fz_mem q)).1
  omega
theorem wrap_small (i : Nat) (h : i ≤ 65536) : IntKind.i64.wrap ((i : Int) + 1) = (i : Int) + 1 := by rw [IntKind.wrap_i64]; omega
theorem keeps_off {B : Nat} {bs : List Nat} {W W' : World} (h : Off bs W W') (hb : ∀ k, k ∈ bs → k < B) : KeepsFrom B W W' :=
  ⟨h.size, fun k o hk ho _ => (h.block k (Array.getElem?_eq_some_iff.1 ho).1 (fun q => by have := hb k q; omega)).trans ho⟩
/-- What the drawn region of a round needs. -/
def wrS (d s B3 B4 b off i N C : Nat) (g : Nat → Int) (X : World) : Prop := X.cell? ⟨B3, 0, none⟩ = some (.pointer (some ⟨d, 0, none⟩)) ∧ X.cell? ⟨d, 1, none⟩ = some (.slice (some ⟨s, 0, none⟩) N C) ∧ X.cell? ⟨B4, 0, none⟩ = some (.int .i64 (i : Int)) ∧ X.rangeAt b off (cl .u8 256 g)
theorem wr_step (W V V2 : World) (B d s m B3 B4 b off c a i : Nat) (D E : Dsk) (f : Nat → Int) (pre : List (Fin c)) (x : Fin c) (hp : wrP D a f pre = (i, E)) (hz : W.heap.size + 1 < B) (hs : s < W.heap.size) (hm : m < W.heap.size) (h4 : B4 < W.heap.size)
    (k1 : DiskAt V d s m E) (k2 : V.cell? ⟨B3, 0, none⟩ = some (.pointer (some ⟨d, 0, none⟩))) (k3 : V.cell? ⟨B4, 0, none⟩ = some (.int .i64 (i : Int))) (k4 : V.frozen? ⟨B4, 0, none⟩ = false) (k5 : Lies V b off (c * 256) f) (k6 : Off [s, m, B4] W V) (k7 : B ≤ V.heap.size) (k8 : B3 < V.heap.size) (k9 : B4 < V.heap.size)
    (hi : i < E.N) (g4 : B4 ≠ d ∧ B4 ≠ s ∧ B4 ≠ m) (g3 : B3 ≠ s ∧ B3 ≠ m ∧ B3 ≠ B4) (gb : b ≠ s ∧ b ≠ m ∧ b ≠ B4) (q1 : DiskAt V2 d s m (E.loosen i)) (q2 : Off [m] V V2) :
    ∃ V3, (Instr.storeAt 91 (.pointer (some ⟨s, i * 256, none⟩)) (.agg (cl .u8 256 (fun j => f (x.1 * 256 + j))).toArray)).run Tryd.prog V2.drew = .ok () V3 ∧ wrS d s B3 B4 b (off + x.1 * 256) i E.N E.C (fun j => f (x.1 * 256 + j)) V2.drew ∧ wrS d s B3 B4 b (off + x.1 * 256) i E.N E.C (fun j => f (x.1 * 256 + j)) V3 ∧ V3.cell? ⟨B4, 0, none⟩ = some (.int .i64 (i : Int)) ∧ V3.frozen? ⟨B4, 0, none⟩ = false ∧
      KeepsFrom B V (V3.setCell ⟨B4, 0, none⟩ (.int .i64 ((i : Int) + 1))) ∧ Kc W.heap.size (W.heap.size + 1) V (V3.setCell ⟨B4, 0, none⟩ (.int .i64 ((i : Int) + 1))) ∧ wrI (c := c) W B d s m B3 B4 b off a D f (pre ++ [x]) (V3.setCell ⟨B4, 0, none⟩ (.int .i64 ((i : Int) + 1))) := by
  have p3 := wrP_snoc D a f pre x
  rw [hp] at p3
  have gd := k1.ds
  have gm := k1.dm
  have gbytes : ∀ j, j < 256 → 0 ≤ f (x.1 * 256 + j) ∧ f (x.1 * 256 + j) < 256 := fun j hj => k5.2.1 _ (by have := x.2; omega)
  obtain ⟨V3, hr3, hR3, hB3⟩ := irow_put (fun j => f (x.1 * 256 + j)) q1.drew.row hi
  have D3 := q1.drew.stepped hR3 hB3 gbytes
  have O3 : Off [s, m, B4] V V3 := ((q2.mono (by simp)).drew).trans (Off.but hB3 (by simp))
  have L3 : Lies V3 b off (c * 256) f := k5.off O3 (by simp; omega)
  have e3 : V3.cell? ⟨B3, 0, none⟩ = some (.pointer (some ⟨d, 0, none⟩)) := (O3.cell (p := ⟨B3, 0, none⟩) k8 (by simp; omega)).trans k2
  have O23 : Off [m] V V2.drew := q2.drew
  have a3 : V2.drew.cell? ⟨B3, 0, none⟩ = some (.pointer (some ⟨d, 0, none⟩)) := (O23.cell (p := ⟨B3, 0, none⟩) k8 (by simp; omega)).trans k2
  have a4 : V2.drew.cell? ⟨B4, 0, none⟩ = some (.int .i64 (i : Int)) := (O23.cell (p := ⟨B4, 0, none⟩) k9 (by simp; omega)).trans k3
  have a1 : V2.drew.cell? ⟨d, 1, none⟩ = some (.slice (some ⟨s, 0, none⟩) E.N E.C) := (q1.drew.recd.cel 1 _ rfl).1
  have aL : V2.drew.rangeAt b (off + x.1 * 256) (cl .u8 256 (fun j => f (x.1 * 256 + j))) := fun j v hj => by
    obtain ⟨hk, rfl⟩ := cl_at' hj
    have := (k5.off O23 (by simp; omega)).1 (x.1 * 256 + j) (by have := x.2; omega)
    rw [Nat.add_assoc]
    exact this
  have b4 : V3.cell? ⟨B4, 0, none⟩ = some (.int .i64 (i : Int)) := (hB3.cell (p := ⟨B4, 0, none⟩) (Nat.lt_of_lt_of_le k9 O23.size) g4.2.1).trans a4
  have fr4 : V3.frozen? ⟨B4, 0, none⟩ = false := (hB3.frozen (p := ⟨B4, 0, none⟩) (Nat.lt_of_lt_of_le k9 O23.size) g4.2.1).trans ((O23.frozen (p := ⟨B4, 0, none⟩) k9 (by simp; omega)).trans k4)
  have b1 : V3.cell? ⟨d, 1, none⟩ = some (.slice (some ⟨s, 0, none⟩) E.N E.C) := (D3.recd.cel 1 _ rfl).1
  have bL : V3.rangeAt b (off + x.1 * 256) (cl .u8 256 (fun j => f (x.1 * 256 + j))) := fun j v hj => by
    obtain ⟨hk, rfl⟩ := cl_at' hj
    have := L3.1 (x.1 * 256 + j) (by have := x.2; omega)
    rw [Nat.add_assoc]
    exact this
  have O4 : Off [s, m, B4] V (V3.setCell ⟨B4, 0, none⟩ (.int .i64 ((i : Int) + 1))) := O3.trans (Off.set _ _ _ (by simp))
  refine ⟨V3, hr3, ⟨a3, a1, a4, aL⟩, ⟨e3, b1, b4, bL⟩, b4, fr4, keeps_off O4 (by simp; omega), ⟨O4.cell (p := ⟨W.heap.size, 0, none⟩) (by show W.heap.size < V.heap.size; omega) (by simp; omega), O4.cell (p := ⟨W.heap.size + 1, 0, none⟩) (by show W.heap.size + 1 < V.heap.size; omega) (by simp; omega)⟩, ?_⟩
  have O5 : Off [B4] V3 (V3.setCell ⟨B4, 0, none⟩ (.int .i64 ((i : Int) + 1))) := Off.set _ _ _ (by simp)
  unfold wrI
  rw [p3]
  refine ⟨D3.off O5 (by simp; omega) (by simp; omega) (by simp; omega), (O5.cell (p := ⟨B3, 0, none⟩) (Nat.lt_of_lt_of_le k8 O3.size) (by simp; omega)).trans e3, ?_, by simpa using fr4, L3.off O5 (by simp; omega), k6.trans O4, Nat.le_trans k7 O4.size, Nat.lt_of_lt_of_le k8 O4.size, Nat.lt_of_lt_of_le k9 O4.size⟩
  rw [World.cell?_setCell_same' _ _ _ (by rw [b4]; rfl)]
  rfl
/-- What a round does behind loosen. -/
def RoundOk (W : World) (B d s m B3 B4 b off c a i N C : Nat) (D : Dsk) (f : Nat → Int) (pre : List (Fin c)) (x : Fin c) (V V2 : World) : Prop :=
  ∃ V3, (Instr.storeAt 91 (.pointer (some ⟨s, i * 256, none⟩)) (.agg (cl .u8 256 (fun j => f (x.1 * 256 + j))).toArray)).run Tryd.prog V2.drew = .ok () V3 ∧ wrS d s B3 B4 b (off + x.1 * 256) i N C (fun j => f (x.1 * 256 + j)) V2.drew ∧ wrS d s B3 B4 b (off + x.1 * 256) i N C (fun j => f (x.1 * 256 + j)) V3 ∧ V3.cell? ⟨B4, 0, none⟩ = some (.int .i64 (i : Int)) ∧ V3.frozen? ⟨B4, 0, none⟩ = false ∧
    Hid (KeepsFrom B V (V3.setCell ⟨B4, 0, none⟩ (.int .i64 ((i : Int) + 1))) ∧ Kc W.heap.size (W.heap.size + 1) V (V3.setCell ⟨B4, 0, none⟩ (.int .i64 ((i : Int) + 1))) ∧ wrI (c := c) W B d s m B3 B4 b off a D f (pre ++ [x]) (V3.setCell ⟨B4, 0, none⟩ (.int .i64 ((i : Int) + 1))))
theorem wr_round (W V : World) (B d s m B3 B4 b off c a : Nat) (D : Dsk) (f : Nat → Int) (pre : List (Fin c)) (x : Fin c) (hI : wrI (c := c) W B d s m B3 B4 b off a D f pre V) (hlt : pre.length < c) (ha : a + c ≤ D.N) (hN : D.N ≤ 65536) (hz : W.heap.size + 1 < B) (hs : s < W.heap.size) (hm : m < W.heap.size) (h4 : B4 < W.heap.size)
    (n3 : B3 ∉ [s, m, B4]) (n4 : B4 ∉ [d, s, m]) (nb : b ∉ [s, m, B4]) :
    ∃ i N C : Nat, V.cell? ⟨B3, 0, none⟩ = some (.pointer (some ⟨d, 0, none⟩)) ∧ V.cell? ⟨B4, 0, none⟩ = some (.int .i64 (i : Int)) ∧ (0 : Int) ≤ i ∧ (i : Int) < N ∧ wrap64 ((i : Int) + 1) = (i : Int) + 1 ∧ IntKind.i64.wrap ((i : Int) + 1) = (i : Int) + 1 ∧ Hid (Calls Tryd.prog 78 #[.pointer (some ⟨d, 0, none⟩), .int .i64 (i : Int)] V fun e V2 => e = .returned (.tuple #[]) ∧ RoundOk W B d s m B3 B4 b off c a i N C D f pre x V V2) := by
  obtain ⟨k1, k2, k3, k4, k5, k6, k7, k8, k9⟩ := hI
  obtain ⟨p1, p2⟩ := wrP_one f pre D a
  obtain ⟨i, E, hp⟩ : ∃ i E, wrP D a f pre = (i, E) := ⟨_, _, rfl⟩
  rw [hp] at k1 k3 p1 p2
  dsimp only at k1 k3 p1 p2
  have hi : i < E.N := by omega
  refine ⟨i, E.N, E.C, k2, k3, by omega, by omega, by unfold wrap64; omega, wrap_small i (by omega), (loosen_ok V d s m i E k1 hi).mono ?_⟩
  rintro e V2 ⟨rfl, q1, q2⟩
  obtain ⟨V3, r1, r2, r3, r4, r5, r6, r7, r8⟩ := wr_step W V V2 B d s m B3 B4 b off c a i D E f pre x hp hz hs hm h4 k1 k2 k3 k4 k5 k6 k7 k8 k9 hi (by simpa using n4) (by simpa using n3) (by simpa using nb) q1 q2
  exact ⟨rfl, V3, r1, r2, r3, r4, r5, r6, r7, r8⟩
set_option maxRecDepth 100000 in
set_option maxHeartbeats 400000 in
theorem write1_ok (W : World) (d s m B3 B4 B5 b off c C a : Nat) (D : Dsk) (f : Nat → Int) (h : DiskAt W d s m D) (c5 : W.cell? ⟨B5, 0, none⟩ = some (.slice (some ⟨b, off, none⟩) (c * 256) C)) (c3 : W.cell? ⟨B3, 0, none⟩ = some (.pointer (some ⟨d, 0, none⟩))) (c4 : W.cell? ⟨B4, 0, none⟩ = some (.int .i64 (a : Int))) (f4 : W.frozen? ⟨B4, 0, none⟩ = false)
    (hL : Lies W b off (c * 256) f) (hc : c ≤ 80) (hC : c * 256 ≤ C) (ha : a + c ≤ D.N) (l3 : B3 < W.heap.size) (l4 : B4 < W.heap.size) (n3 : B3 ∉ [s, m, B4]) (n4 : B4 ∉ [d, s, m]) (nb : b ∉ [s, m, B4]) :
    Calls Tryd.prog 76 #[.pointer (some ⟨B5, 0, none⟩), .pointer (some ⟨B3, 0, none⟩), .pointer (some ⟨B4, 0, none⟩)] W fun e w' => e = .returned (.tuple #[]) ∧ DiskAt w' d s m (D.wrote a f c) ∧ Off [s, m, B4] W w' := by
  refine (callsIn_wide (n := 5)).1 ?_
  have HD : Hid (DiskAt W d s m D) := h
  have HL : Hid (Lies W b off (c * 256) f) := hL
  have h2 := h.n2
  have dl := h.dl
  have sl := h.sl
  have ml := h.ml
  have bl := hL.2.2
  have n3' : Hid (B3 ∉ [s, m, B4]) := n3
  have n4' : Hid (B4 ∉ [d, s, m]) := n4
  have nb' : Hid (b ∉ [s, m, B4]) := nb
  clear h hL n3 n4 nb
  refine callsIn_of_wp_marks Tryd.func76 rfl trivial ?_ rfl
  simp only [Tryd.ntmps76, List.size_toArray, List.length_cons, List.length_nil, Nat.reduceAdd, Nat.reduceSub, Array.replicate_succ, Array.replicate_zero, List.push_toArray, List.append_toArray, List.nil_append, List.cons_append]
  gi_wp2
  refine ⟨trivial, ?_⟩
  refine (chunk_in Fence.wide 4 trivial rfl _ _ _ _).mono ?_
  rintro e w' ⟨rfl, rfl⟩
  gi_wp2
  have bS : ((W.alloc (.cells #[.slice (some ⟨b, off, none⟩) (c * 256) C] 27)).alloc (.cells #[.int .i64 256] 3)).cell? ⟨W.heap.size, 0, none⟩ = some (.slice (some ⟨b, off, none⟩) (c * 256) C) := by simp [go_sem]
  have bN : ((W.alloc (.cells #[.slice (some ⟨b, off, none⟩) (c * 256) C] 27)).alloc (.cells #[.int .i64 256] 3)).cell? ⟨W.heap.size + 1, 0, none⟩ = some (.int .i64 256) := by simp [go_sem]
  have hz1 : ((W.alloc (.cells #[.slice (some ⟨b, off, none⟩) (c * 256) C] 27)).alloc (.cells #[.int .i64 256] 3)).heap.size = W.heap.size + 1 + 1 := by simp
  have hB1 : Below W.heap.size W ((W.alloc (.cells #[.slice (some ⟨b, off, none⟩) (c * 256) C] 27)).alloc (.cells #[.int .i64 256] 3)) := ((Below.refl _ _).alloc (Nat.le_refl _) _).alloc (by simp) _
  generalize ((W.alloc (.cells #[.slice (some ⟨b, off, none⟩) (c * 256) C] 27)).alloc (.cells #[.int .i64 256] 3)) = W1 at bS bN hz1 hB1 ⊢
  have SQ := chunk_stops Fence.wide 4 trivial rfl (by omega) W.heap.size (W.heap.size + 1) b off c C hc hC W1 (by omega) (by omega) bS bN
  have KB : ∀ (V : World) (l : Nat) (o o' : Obj), W1.heap.size ≤ l → V.heap[l]? = some o → o.isCells = false → o.isWalk = false → Kc W.heap.size (W.heap.size + 1) V (V.putObj l o') := fun V l o o' hl _ _ _ => ⟨World.cell?_of_block (World.putObj_heap_other (by show W.heap.size ≠ l; omega)), World.cell?_of_block (World.putObj_heap_other (by show W.heap.size + 1 ≠ l; omega))⟩
  have HI := wrI_own (c := c) W W1.heap.size d s m B3 B4 b off a D f (by omega) (by omega) (by omega) (by omega) (by omega) (by omega) (by omega)
  have H0 : wrI (c := c) W W1.heap.size d s m B3 B4 b off a D f [] W1 := ⟨HD.out.below hB1, (hB1.cell (p := ⟨B3, 0, none⟩) l3).trans c3, (hB1.cell (p := ⟨B4, 0, none⟩) l4).trans c4, (hB1.frozen (p := ⟨B4, 0, none⟩) l4).trans f4, HL.out.below hB1, Off.of hB1, Nat.le_refl _, by omega, by omega⟩
  refine wpIn_rangeFunc_ownG rfl (by decide) (gf := 88) (lb := #[.pointer (some ⟨W.heap.size, 0, none⟩), .pointer (some ⟨W.heap.size + 1, 0, none⟩)]) rfl trivial (enters_of Tryd.func88 (by kernel_rfl) rfl)
    SQ Kc.trans KB (Below.refl _ _) (fun _ => rfl) (wrI (c := c) W W1.heap.size d s m B3 B4 b off a D f) (fun _ _ _ => False) HI (fun _ _ _ _ _ hs _ _ => hs) H0
    (fun x => { tmps := #[.pointer (some ⟨B5, 0, none⟩), .pointer (some ⟨B3, 0, none⟩), .pointer (some ⟨B4, 0, none⟩), .slice (some ⟨b, off + x.1 * 256, none⟩) 256 256, .slice (some ⟨b, off, none⟩) (c * 256) C, .func (.func 88) #[] #[.pointer (some ⟨W.heap.size, 0, none⟩), .pointer (some ⟨W.heap.size + 1, 0, none⟩)], .slice (some ⟨b, off + x.1 * 256, none⟩) 256 256, undef, undef, undef, undef, undef, undef, undef, undef, undef, undef, undef, undef, undef, undef], defers := [] }) ?assign ?body ?done ?stop
  case assign =>
    intro l x V K hK
    gi_wp2
    exact hK
  case body =>
    intro l pre x V hI hlt
    obtain ⟨i, N, CC, k2, k3, i0, i1, w1', w2', LO⟩ := wr_round W V W1.heap.size d s m B3 B4 b off c a D f pre x hI hlt ha h2 (by omega) sl ml l4 n3'.out n4'.out nb'.out
    clear hI SQ KB HI H0 bS bN hB1
    gi_wp2
    refine ⟨trivial, ?_⟩
    refine (CallsIn.inRound l ((callsIn_wide (n := _)).2 LO.out)).mono ?_
    rintro e V2 ⟨rfl, V3, hr3, s2, s3, b4, fr4, PP⟩
    clear LO
    gi_wp2
    refine region_in (S := wrS d s B3 B4 b (off + x.1 * 256) i N CC (fun j => f (x.1 * 256 + j))) (by kernel_rfl) (by kernel_rfl) s2 (fun hHeld => ?_)
    refine take_at (i := 0) (v := ?_) (some 10) rfl rfl (by kernel_rfl) (by kernel_rfl) (by kernel_rfl) (fun _ _ _ h => by cases h.1) (Or.inl ⟨by rfl, ?_⟩) (by assumption) ?_
    rotate_left
    · (intro w hSw; (try dsimp only at hSw); obtain ⟨q1, q2, q3, q4⟩ := hSw; clear q4; go_simp; try with_reducible rfl)
    simp only [Act.put, List.setIfInBounds_toArray, List.set_cons_zero, List.set_cons_succ]
    refine take_at (i := 1) (v := ?_) (some 11) rfl rfl (by kernel_rfl) (by kernel_rfl) (by kernel_rfl) (fun _ _ _ h => by cases h.1) (Or.inl ⟨by rfl, ?_⟩) (by assumption) ?_
    rotate_left
    · (intro w hSw; (try dsimp only at hSw); obtain ⟨q1, q2, q3, q4⟩ := hSw; clear q4; go_simp; try with_reducible rfl)
    simp only [Act.put, List.setIfInBounds_toArray, List.set_cons_zero, List.set_cons_succ]
    refine take_at (i := 2) (v := ?_) (some 12) rfl rfl (by kernel_rfl) (by kernel_rfl) (by kernel_rfl) (fun _ _ _ h => by cases h.1) (Or.inl ⟨by rfl, ?_⟩) (by assumption) ?_
    rotate_left
    · (intro w hSw; (try dsimp only at hSw); obtain ⟨q1, q2, q3, q4⟩ := hSw; clear q4; go_simp; try with_reducible rfl)
    simp only [Act.put, List.setIfInBounds_toArray, List.set_cons_zero, List.set_cons_succ]
    refine take_at (i := 3) (v := ?_) (some 13) rfl rfl (by kernel_rfl) (by kernel_rfl) (by kernel_rfl) (fun _ _ _ h => by cases h.1) (Or.inl ⟨by rfl, ?_⟩) (by assumption) ?_
    rotate_left
    · (intro w hSw; (try dsimp only at hSw); obtain ⟨q1, q2, q3, q4⟩ := hSw; clear q4; go_simp; try with_reducible rfl)
    simp only [Act.put, List.setIfInBounds_toArray, List.set_cons_zero, List.set_cons_succ]
    refine take_at (i := 4) (v := ?_) (some 14) rfl rfl (by kernel_rfl) (by kernel_rfl) (by kernel_rfl) (fun _ _ _ h => by cases h.1) (Or.inl ⟨by rfl, ?_⟩) (by assumption) ?_
    rotate_left
    · (intro w hSw; (try dsimp only at hSw); obtain ⟨q1, q2, q3, q4⟩ := hSw; clear q4; go_simp; try with_reducible rfl)
    simp only [Act.put, List.setIfInBounds_toArray, List.set_cons_zero, List.set_cons_succ]
    refine take_at (i := 5) (v := ?_) (some 15) rfl rfl (by kernel_rfl) (by kernel_rfl) (by kernel_rfl) (fun _ _ _ h => by cases h.1) (Or.inl ⟨by rfl, ?_⟩) (by assumption) ?_
    rotate_left
    · (intro w hSw; (try dsimp only at hSw); obtain ⟨q1, q2, q3, q4⟩ := hSw; clear q4; go_simp; try with_reducible rfl)
    simp only [Act.put, List.setIfInBounds_toArray, List.set_cons_zero, List.set_cons_succ]
    refine take_at (i := 6) (v := (.pointer (some ⟨b, off + x.1 * 256, none⟩))) (some 16) rfl rfl (by kernel_rfl) (by kernel_rfl) (by kernel_rfl) (fun _ _ _ h => by cases h.1) (Or.inl ⟨by rfl, fun w _ => arr_run (.tmp 15) rfl _ 256 rfl⟩) (by assumption) ?_
    simp only [Act.put, List.setIfInBounds_toArray, List.set_cons_zero, List.set_cons_succ]
    refine take_at (i := 7) (v := _) (some 17) rfl rfl (by kernel_rfl) (by kernel_rfl) (by kernel_rfl) (fun _ _ _ h => by cases h.1) (yieldsIf_load_mid (by rfl) 91 (.tmp 16) rfl b (off + x.1 * 256) rfl (cl .u8 256 (fun j => f (x.1 * 256 + j))) _ (fun _ h => h.2.2.2) Tryd.underlying91 rfl (by rw [cl_len]; kernel_rfl)) (by assumption) ?_
    simp only [Act.put, List.setIfInBounds_toArray, List.set_cons_zero, List.set_cons_succ]
    refine take_at (i := 8) (v := ?_) (some 18) rfl rfl (by kernel_rfl) (by kernel_rfl) (by kernel_rfl) (fun _ _ _ h => by cases h.1) (Or.inl ⟨by rfl, ?_⟩) (by assumption) ?_
    rotate_left
    · (intro w hSw; (try dsimp only at hSw); obtain ⟨q1, q2, q3, q4⟩ := hSw; clear q4; go_simp; try with_reducible rfl)
    simp only [Act.put, List.setIfInBounds_toArray, List.set_cons_zero, List.set_cons_succ]
    refine skip_at (i := 9) none rfl rfl (by rfl) (by kernel_rfl) V3 (store_skip 91 (.tmp 18) (.tmp 17) rfl _ _ rfl rfl hr3) s3 (fun hHeld => ?_)
    simp only [Act.put]
    refine wpAnyH_done (by kernel_rfl) ?_ _
    refine ⟨rfl, ?_⟩
    gi_wp2
    exact ⟨PP.out.1, PP.out.2.1, PP.out.2.2⟩
  case done =>
    rintro D2 ys V hD2 rfl hI hK
    obtain ⟨k1, k2, k3, k4, k5, k6, k7, k8, k9⟩ := HI.putObj (.deferred none) hI hD2 hK rfl
    rw [wrP_all D a f c (Nat.le_refl _)] at k1
    gi_wp2
    refine ⟨by simp, .inl ⟨_, _, rfl, run_takeDeferred hK, ?_⟩⟩
    refine ⟨.tuple #[], by simp [results, Tryd.results76], rfl, k1, k6⟩
  case stop =>
    rintro D2 c2 pre V _ _ h _
    exact h.elim
end Go.Proofs.YtijpoipcadhchaaDoor
namespace Go.Proofs.YtijpoipcadhchaaDoor
open Go.RowKit Go.Maps
/-- What a Write that is done leaves. -/
def WrotePost (W : World) (d s m : Nat) (D D' : Dsk) (l : Int) (o : Bool) (bs : List Nat) (e : Ending) (w' : World) : Prop := e = .returned (.int .i64 0) ∧ DiskAt w' d s m D' ∧ FuseIs w' D.fz (fzLeft D.fz l) o ∧ Off (bs ++ D.fz.toList) W w'
theorem far_mem {d s m B x h : Nat} {fz : Option Nat} (q : x ∈ [d, s, m, B] ++ fz.toList) (hB : h ≤ B) : x ∈ [d, s, m] ++ fz.toList ∨ h ≤ x := by
  rw [List.mem_append] at q
  rcases q with q | q
  · have q' : x = d ∨ x = s ∨ x = m ∨ x = B := by simpa using q
    rcases q' with rfl | rfl | rfl | rfl
    · exact .inl (List.mem_append_left _ (by simp))
    · exact .inl (List.mem_append_left _ (by simp))
    · exact .inl (List.mem_append_left _ (by simp))
    · exact .inr hB
  · exact .inl (List.mem_append_right _ q)
theorem changeW_blow (W : World) (d s m : Nat) (cb : Array Value) (D : Dsk) (l : Int) (o : Bool) (h : DiskAt W d s m D) (hf : FuseIs W D.fz l o) (hq : FzOk D d s m) (hp : fzPass D.fz l = false) :
    Calls Tryd.prog 52 #[.pointer (some ⟨d, 0, none⟩), .func (.func 76) #[] cb] W (BlowPost W d s m D l) := by
  obtain ⟨c4, _⟩ := h.recd.cel 4 _ rfl
  have SP : Hid (∀ w1, FuseIs w1 D.fz (fzLeft D.fz l) (fzOut D.fz l o) → Off D.fz.toList W w1 → BlowPost W d s m D l (.returned (.int .i64 11)) w1) := fun w1 h1 h2 => stop_post h hq hp h1 h2
  have HF : Hid (FuseIs W D.fz l o) := hf
  have HP : Hid (fzPass D.fz l = false) := hp
  clear h hf hq hp
  go_enter Tryd.func52, Tryd.ntmps52
  go_wp2_with (go_at_call 79; refine (pass_any _ D.fz l o HF.out).mono ?_; rintro e w1 ⟨rfl, h1, h2⟩; rw [HP.out]; have PP : Hid (BlowPost W d s m D l (.returned (.int .i64 11)) w1) := SP.out w1 h1 h2; clear h1 h2)
  go_ret
  exact PP.out
/-- What the closure is handed. -/
structure WrArg (W : World) (d s m B3 B4 B5 b off c C a : Nat) (D : Dsk) (f : Nat → Int) : Prop where
  c5 : W.cell? ⟨B5, 0, none⟩ = some (.slice (some ⟨b, off, none⟩) (c * 256) C)
  c3 : W.cell? ⟨B3, 0, none⟩ = some (.pointer (some ⟨d, 0, none⟩))
  c4 : W.cell? ⟨B4, 0, none⟩ = some (.int .i64 (a : Int))
  f4 : W.frozen? ⟨B4, 0, none⟩ = false
  hL : Lies W b off (c * 256) f
  hc : c ≤ 80
  hC : c * 256 ≤ C
  ha : a + c ≤ D.N
  l3 : B3 < W.heap.size
  l4 : B4 < W.heap.size
  l5 : B5 < W.heap.size
  n3 : B3 ∉ [s, m, B4]
  n4 : B4 ∉ [d, s, m]
  nb : b ∉ [s, m, B4]
theorem WrArg.past {W W1 : World} {d s m B3 B4 B5 b off c C a : Nat} {D : Dsk} {f : Nat → Int} (h : WrArg W d s m B3 B4 B5 b off c C a D f) (hO : Off D.fz.toList W W1) (hq : ∀ q, D.fz = some q → q ≠ B3 ∧ q ≠ B4 ∧ q ≠ B5 ∧ q ≠ b) : WrArg W1 d s m B3 B4 B5 b off c C a D f :=
  { h with
    c5 := (hO.cell (p := ⟨B5, 0, none⟩) h.l5 (fun q => (hq _ (fz_mem q)).2.2.1 rfl)).trans h.c5
    c3 := (hO.cell (p := ⟨B3, 0, none⟩) h.l3 (fun q => (hq _ (fz_mem q)).1 rfl)).trans h.c3
    c4 := (hO.cell (p := ⟨B4, 0, none⟩) h.l4 (fun q => (hq _ (fz_mem q)).2.1 rfl)).trans h.c4
    f4 := (hO.frozen (p := ⟨B4, 0, none⟩) h.l4 (fun q => (hq _ (fz_mem q)).2.1 rfl)).trans h.f4
    hL := h.hL.off hO (fun q => (hq _ (fz_mem q)).2.2.2 rfl)
    l3 := Nat.lt_of_lt_of_le h.l3 hO.size
    l4 := Nat.lt_of_lt_of_le h.l4 hO.size
    l5 := Nat.lt_of_lt_of_le h.l5 hO.size }
theorem changeW_ok (W : World) (d s m B3 B4 B5 b off c C a : Nat) (D : Dsk) (f : Nat → Int) (l : Int) (o : Bool) (h : DiskAt W d s m D) (hf : FuseIs W D.fz l o) (hq : FzOk D d s m) (hp : fzPass D.fz l = true)
    (hw : WrArg W d s m B3 B4 B5 b off c C a D f) (hBq : ∀ q, D.fz = some q → q ≠ B3 ∧ q ≠ B4 ∧ q ≠ B5 ∧ q ≠ b) (ho : 0 ≤ D.ops ∧ D.ops ≤ 1000000) :
    Calls Tryd.prog 52 #[.pointer (some ⟨d, 0, none⟩), .func (.func 76) #[] #[.pointer (some ⟨B5, 0, none⟩), .pointer (some ⟨B3, 0, none⟩), .pointer (some ⟨B4, 0, none⟩)]] W (WrotePost W d s m D (D.wrote a f c).more l o [d, s, m, B4]) := by
  obtain ⟨c4, _⟩ := h.recd.cel 4 _ rfl
  have HD : Hid (DiskAt W d s m D) := h
  have HQ : Hid (FzOk D d s m) := hq
  have HF : Hid (FuseIs W D.fz l o) := hf
  have HP : Hid (fzPass D.fz l = true) := hp
  have HW : Hid (WrArg W d s m B3 B4 B5 b off c C a D f) := hw
  have HBQ : Hid (∀ q, D.fz = some q → q ≠ B3 ∧ q ≠ B4 ∧ q ≠ B5 ∧ q ≠ b) := hBq
  have w1' : wrap64 (D.ops + 1) = D.ops + 1 := by unfold wrap64; omega
  have w2' : IntKind.i64.wrap (D.ops + 1) = D.ops + 1 := by rw [IntKind.wrap_i64]; omega
  clear h hf hq hp hw hBq
  go_enter Tryd.func52, Tryd.ntmps52
  go_wp2_with (first
    | (go_at_call 79; refine (pass_any _ D.fz l o HF.out).mono ?_; rintro e w1 ⟨rfl, h1, h2⟩; rw [HP.out]; rw [fzOut_pass HP.out] at h1
       have F1 : Hid (FuseIs w1 D.fz (fzLeft D.fz l) o) := h1
       have O1 : Hid (Off D.fz.toList W w1) := h2
       have W1 : Hid (WrArg w1 d s m B3 B4 B5 b off c C a D f) := HW.out.past h2 HBQ.out
       clear h1 h2)
    | (go_at_call 76; refine (write1_ok _ d s m B3 B4 B5 b off c C a D f (HD.out.past O1.out HQ.out) W1.out.c5 W1.out.c3 W1.out.c4 W1.out.f4 W1.out.hL W1.out.hc W1.out.hC W1.out.ha W1.out.l3 W1.out.l4 W1.out.n3 W1.out.n4 W1.out.nb).mono ?_; rintro e w2 ⟨rfl, h1, h2⟩
       obtain ⟨c3, f3⟩ := h1.recd.cel 3 _ rfl
       have c3' : w2.cell? ⟨d, 3, none⟩ = some (.int .i64 D.ops) := by rw [c3, Dsk.wrote_ops]
       have PP : Hid (WrotePost W d s m D (D.wrote a f c).more l o [d, s, m, B4] (.returned (.int .i64 0)) (w2.setCell ⟨d, 3, none⟩ (.int .i64 (D.ops + 1)))) := by
         have O3 : Off [d, s, m, B4] w1 (w2.setCell ⟨d, 3, none⟩ (.int .i64 (D.ops + 1))) := (h2.mono (fun x q => List.mem_cons_of_mem _ q)).trans (Off.set _ _ _ (by simp))
         have b1 := h1.bump
         rw [Dsk.wrote_ops] at b1
         exact ⟨rfl, b1, F1.out.off O3 (fun q hq => by have g1 := HQ.out q hq; have g2 := HBQ.out q hq; simp; omega), (O1.out.mono (fun _ q => List.mem_append_right _ q)).trans (O3.mono (fun _ q => List.mem_append_left _ q))⟩
       clear h1 h2 c3 O1 F1))
  go_ret
  exact PP.out
/-- The world in which Write has its arguments in boxes. -/
def boxW (W : World) (d : Nat) (x : Int) (v : Value) : World := ((W.alloc (.cells #[.pointer (some ⟨d, 0, none⟩)] 32)).alloc (.cells #[.int .i64 x] 3)).alloc (.cells #[v] 27)
theorem boxW_below (W : World) (d : Nat) (x : Int) (v : Value) : Below W.heap.size W (boxW W d x v) := (((Below.refl _ _).alloc (Nat.le_refl _) _).alloc (by simp) _).alloc (by simp; omega) _
theorem boxW_size (W : World) (d : Nat) (x : Int) (v : Value) : (boxW W d x v).heap.size = W.heap.size + 1 + 1 + 1 := by simp [boxW]
theorem write_down (W : World) (d s m : Nat) (D : Dsk) (l : Int) (o : Bool) (x : Int) (p : Option Addr) (n C : Nat) (h : DiskAt W d s m D) (hf : FuseIs W D.fz l o) (hu : D.up o = false) :
    Calls Tryd.prog 50 #[.pointer (some ⟨d, 0, none⟩), .int .i64 x, .slice p n C] W fun e w' => e = .returned (.int .i64 11) ∧ Below W.heap.size W w' := by
  have HD : Hid (DiskAt (boxW W d x (.slice p n C)) d s m D) := h.below (boxW_below _ _ _ _)
  have HF : Hid (FuseIs (boxW W d x (.slice p n C)) D.fz l o) := hf.below (boxW_below _ _ _ _)
  have BB : Hid (Below W.heap.size W (boxW W d x (.slice p n C))) := boxW_below _ _ _ _
  have HU : Hid (D.up o = false) := hu
  unfold boxW at HD HF BB
  clear h hf hu
  go_enter Tryd.func50, Tryd.ntmps50
  go_wp2_with (go_at_call 51; refine (ready_ok _ d s m D l o HD.out HF.out).mono ?_; rintro e w1 ⟨rfl, rfl⟩; rw [HU.out, if_neg (by simp)])
  go_ret
  exact ⟨rfl, BB.out⟩
theorem write_arg (W : World) (d s m : Nat) (D : Dsk) (l : Int) (o : Bool) (x : Int) (p : Option Addr) (n C : Nat) (h : DiskAt W d s m D) (hf : FuseIs W D.fz l o) (hu : D.up o = true) (hn : n = 0 ∨ n % 256 ≠ 0) :
    Calls Tryd.prog 50 #[.pointer (some ⟨d, 0, none⟩), .int .i64 x, .slice p n C] W fun e w' => e = .returned (.int .i64 2) ∧ Below W.heap.size W w' := by
  have HD : Hid (DiskAt (boxW W d x (.slice p n C)) d s m D) := h.below (boxW_below _ _ _ _)
  have HF : Hid (FuseIs (boxW W d x (.slice p n C)) D.fz l o) := hf.below (boxW_below _ _ _ _)
  have BB : Hid (Below W.heap.size W (boxW W d x (.slice p n C))) := boxW_below _ _ _ _
  have HU : Hid (D.up o = true) := hu
  unfold boxW at HD HF BB
  clear h hf hu
  by_cases z : n = 0
  · subst z
    clear hn
    go_enter Tryd.func50, Tryd.ntmps50
    go_wp2_with (go_at_call 51; refine (ready_ok _ d s m D l o HD.out HF.out).mono ?_; rintro e w1 ⟨rfl, rfl⟩; rw [HU.out, if_pos rfl])
    go_ret
    exact ⟨rfl, BB.out⟩
  · have e1 : ¬ (n : Int) = 0 := by omega
    have e2 : ((n : Int).tmod 256 != 0) = true := by rw [Int.tmod_eq_emod_of_nonneg (by omega)]; simp; omega
    have e3 : ((n : Int) % 256 != 0) = true := by simp; omega
    have e5 : ((n : Int) == 0) = false := by simp; omega
    clear hn
    go_enter Tryd.func50, Tryd.ntmps50
    go_wp2_with (go_at_call 51; refine (ready_ok _ d s m D l o HD.out HF.out).mono ?_; rintro e w1 ⟨rfl, rfl⟩; rw [HU.out, if_pos rfl])
    go_ret
    exact ⟨rfl, BB.out⟩
theorem boxW_arg (W : World) (d s m a b off c C : Nat) (D : Dsk) (f : Nat → Int) (h : DiskAt W d s m D) (hL : Lies W b off (c * 256) f) (hc : c ≤ 80) (hC : c * 256 ≤ C) (ha : a + c ≤ D.N) (hb : b ≠ s ∧ b ≠ m) :
    WrArg (boxW W d a (.slice (some ⟨b, off, none⟩) (c * 256) C)) d s m W.heap.size (W.heap.size + 1) (W.heap.size + 1 + 1) b off c C a D f := by
  have dl := h.dl
  have sl := h.sl
  have ml := h.ml
  have bl := hL.2.2
  have z := boxW_size W d a (.slice (some ⟨b, off, none⟩) (c * 256) C)
  refine ⟨by simp [boxW, go_sem], by simp [boxW, go_sem], by simp [boxW, go_sem], by simp [boxW, go_sem], hL.below (boxW_below _ _ _ _), hc, hC, ha, by omega, by omega, by omega, by simp; omega, by simp; omega, by simp; omega⟩
set_option maxRecDepth 100000 in
theorem write_ok (W : World) (d s m a b off c C : Nat) (D : Dsk) (f : Nat → Int) (l : Int) (o : Bool) (h : DiskAt W d s m D) (hf : FuseIs W D.fz l o) (hq : FzOk D d s m) (hu : D.up o = true) (hp : fzPass D.fz l = true) (hL : Lies W b off (c * 256) f) (hc1 : 1 ≤ c) (hc : c ≤ 80) (hC : c * 256 ≤ C) (ha : a + c ≤ D.N) (hb : b ≠ s ∧ b ≠ m)
    (hql : ∀ q, D.fz = some q → q < W.heap.size ∧ q ≠ b) (ho : 0 ≤ D.ops ∧ D.ops ≤ 1000000) :
    Calls Tryd.prog 50 #[.pointer (some ⟨d, 0, none⟩), .int .i64 (a : Int), .slice (some ⟨b, off, none⟩) (c * 256) C] W (WrotePost W d s m D (D.wrote a f c).more l o [d, s, m]) := by
  have HD : Hid (DiskAt (boxW W d a (.slice (some ⟨b, off, none⟩) (c * 256) C)) d s m D) := h.below (boxW_below _ _ _ _)
  have HF : Hid (FuseIs (boxW W d a (.slice (some ⟨b, off, none⟩) (c * 256) C)) D.fz l o) := hf.below (boxW_below _ _ _ _)
  have BB : Hid (Below W.heap.size W (boxW W d a (.slice (some ⟨b, off, none⟩) (c * 256) C))) := boxW_below _ _ _ _
  have WA : Hid (WrArg (boxW W d a (.slice (some ⟨b, off, none⟩) (c * 256) C)) d s m W.heap.size (W.heap.size + 1) (W.heap.size + 1 + 1) b off c C a D f) := boxW_arg W d s m a b off c C D f h hL hc hC ha hb
  have HU : Hid (D.up o = true) := hu
  have n2 := h.n2
  have HH : Hid (hasB D.N a c = true) := by show hasB D.N a c = true; unfold hasB; simp; omega
  have QQ : Hid (∀ q, D.fz = some q → q ≠ W.heap.size ∧ q ≠ W.heap.size + 1 ∧ q ≠ W.heap.size + 1 + 1 ∧ q ≠ b) := fun q e => by have := hql q e; omega
  have e1 : ¬ (c : Int) * 256 = 0 := by omega
  have e2 : ((c : Int) * 256).tmod 256 = 0 := Int.mul_tmod_left _ _
  have e3 : ((c : Int) * 256).tdiv 256 = c := Int.mul_tdiv_cancel _ (by decide)
  have e4 : ¬ c = 0 := by omega
  unfold boxW at HD HF BB WA
  clear h hf hu hL hql
  go_enter Tryd.func50, Tryd.ntmps50
  go_wp2_with (first
    | (go_at_call 51; refine (ready_ok _ d s m D l o HD.out HF.out).mono ?_; rintro e w1 ⟨rfl, rfl⟩; rw [HU.out, if_pos rfl])
    | (go_at_call 61; refine (has_ok _ d s m D a c HD.out (by omega)).mono ?_; rintro e w1 ⟨rfl, rfl⟩; rw [HH.out])
    | (go_at_call 52; refine (changeW_ok _ d s m W.heap.size (W.heap.size + 1) (W.heap.size + 1 + 1) b off c C a D f l o HD.out HF.out hq hp WA.out QQ.out ho).mono ?_; rintro e w2 ⟨rfl, h1, h2, h3⟩
       have PP : Hid (WrotePost W d s m D (D.wrote a f c).more l o [d, s, m] (.returned (.int .i64 0)) w2) := ⟨rfl, h1, h2, (Off.of BB.out).far h3 (fun x q => far_mem q (by omega))⟩
       clear h1 h2 h3))
  go_ret
  exact PP.out
end Go.Proofs.YtijpoipcadhchaaDoor
namespace Go.Proofs.YtijpoipcadhchaaDoor
open Go.RowKit Go.Maps
set_option maxRecDepth 100000 in
theorem write_range (W : World) (d s m : Nat) (D : Dsk) (l : Int) (o : Bool) (x : Int) (p : Option Addr) (c C : Nat) (h : DiskAt W d s m D) (hf : FuseIs W D.fz l o) (hu : D.up o = true) (hc : 1 ≤ c) (hc8 : c ≤ 80) (hx : x < 9223372036854775808) (hh : hasB D.N x c = false) :
    Calls Tryd.prog 50 #[.pointer (some ⟨d, 0, none⟩), .int .i64 x, .slice p (c * 256) C] W fun e w' => e = .returned (.int .i64 5) ∧ Below W.heap.size W w' := by
  have HD : Hid (DiskAt (boxW W d x (.slice p (c * 256) C)) d s m D) := h.below (boxW_below _ _ _ _)
  have HF : Hid (FuseIs (boxW W d x (.slice p (c * 256) C)) D.fz l o) := hf.below (boxW_below _ _ _ _)
  have BB : Hid (Below W.heap.size W (boxW W d x (.slice p (c * 256) C))) := boxW_below _ _ _ _
  have HU : Hid (D.up o = true) := hu
  have HH : Hid (hasB D.N x c = false) := hh
  have e1 : ¬ (c : Int) * 256 = 0 := by omega
  have e2 : ((c : Int) * 256).tmod 256 = 0 := Int.mul_tmod_left _ _
  have e3 : ((c : Int) * 256).tdiv 256 = c := Int.mul_tdiv_cancel _ (by decide)
  have e4 : ¬ c = 0 := by omega
  have e5 : wrap64 (c : Int) = c := by unfold wrap64; omega
  have e6 : IntKind.i64.wrap (c : Int) = c := by rw [IntKind.wrap_i64]; omega
  unfold boxW at HD HF BB
  clear h hf hu hh
  go_enter Tryd.func50, Tryd.ntmps50
  go_wp2_with (first
    | (go_at_call 51; refine (ready_ok _ d s m D l o HD.out HF.out).mono ?_; rintro e w1 ⟨rfl, rfl⟩; rw [HU.out, if_pos rfl])
    | (go_at_call 61; refine (has_ok _ d s m D x c HD.out hx).mono ?_; rintro e w1 ⟨rfl, rfl⟩; rw [HH.out]))
  go_ret
  exact ⟨rfl, BB.out⟩
set_option maxRecDepth 100000 in
theorem write_blow (W : World) (d s m : Nat) (D : Dsk) (l : Int) (o : Bool) (x : Int) (p : Option Addr) (c C : Nat) (h : DiskAt W d s m D) (hf : FuseIs W D.fz l o) (hq : FzOk D d s m) (hu : D.up o = true) (hp : fzPass D.fz l = false) (hc : 1 ≤ c) (hc8 : c ≤ 80) (hx : x < 9223372036854775808) (hh : hasB D.N x c = true) :
    Calls Tryd.prog 50 #[.pointer (some ⟨d, 0, none⟩), .int .i64 x, .slice p (c * 256) C] W (BlowPost W d s m D l) := by
  have HD : Hid (DiskAt (boxW W d x (.slice p (c * 256) C)) d s m D) := h.below (boxW_below _ _ _ _)
  have HF : Hid (FuseIs (boxW W d x (.slice p (c * 256) C)) D.fz l o) := hf.below (boxW_below _ _ _ _)
  have BB : Hid (Below W.heap.size W (boxW W d x (.slice p (c * 256) C))) := boxW_below _ _ _ _
  have HU : Hid (D.up o = true) := hu
  have HH : Hid (hasB D.N x c = true) := hh
  have e1 : ¬ (c : Int) * 256 = 0 := by omega
  have e2 : ((c : Int) * 256).tmod 256 = 0 := Int.mul_tmod_left _ _
  have e3 : ((c : Int) * 256).tdiv 256 = c := Int.mul_tdiv_cancel _ (by decide)
  have e4 : ¬ c = 0 := by omega
  have e5 : wrap64 (c : Int) = c := by unfold wrap64; omega
  have e6 : IntKind.i64.wrap (c : Int) = c := by rw [IntKind.wrap_i64]; omega
  unfold boxW at HD HF BB
  clear h hf hu hh
  go_enter Tryd.func50, Tryd.ntmps50
  go_wp2_with (first
    | (go_at_call 51; refine (ready_ok _ d s m D l o HD.out HF.out).mono ?_; rintro e w1 ⟨rfl, rfl⟩; rw [HU.out, if_pos rfl])
    | (go_at_call 61; refine (has_ok _ d s m D x c HD.out hx).mono ?_; rintro e w1 ⟨rfl, rfl⟩; rw [HH.out])
    | (go_at_call 52; refine (changeW_blow _ d s m _ D l o HD.out HF.out hq hp).mono ?_; rintro e w2 ⟨rfl, h1, h2, h3⟩
       have PP : Hid (BlowPost W d s m D l (.returned (.int .i64 11)) w2) := ⟨rfl, h1, h2, (Off.of BB.out).trans h3⟩
       clear h1 h2 h3))
  go_ret
  exact PP.out
end Go.Proofs.YtijpoipcadhchaaDoor
namespace Go.Proofs.YtijpoipcadhchaaDoor
open Go.RowKit Go.Maps
/-- A disk of which a byte is turned. -/
def Dsk.turn (D : Dsk) (x p : Nat) (v : Int) : Dsk := { D with sec := upd D.sec (x * 256 + p) (bits .xor .u8 (D.sec (x * 256 + p)) v) }
theorem xor_byte (a b : Int) (h1 : 0 ≤ a ∧ a < 256) (h2 : 0 ≤ b ∧ b < 256) : 0 ≤ bits .xor .u8 a b ∧ bits .xor .u8 a b < 256 := by
  rw [u8_xor a b h1.1 h1.2 h2.1 h2.2]
  have : a.toNat ^^^ b.toNat < 2 ^ 8 := Nat.xor_lt_two_pow (by omega) (by omega)
  omega
theorem DiskAt.turned {W : World} {d s m : Nat} {D : Dsk} (h : DiskAt W d s m D) (x p : Nat) (v : Int) (hx : x < D.N) (hp : p < 256) (hv : 0 ≤ v ∧ v < 256) : DiskAt (W.setCell ⟨s, x * 256 + p, none⟩ (.int .u8 (bits .xor .u8 (D.sec (x * 256 + p)) v))) d s m (D.turn x p v) := by
  have B : But s W (W.setCell ⟨s, x * 256 + p, none⟩ (.int .u8 (bits .xor .u8 (D.sec (x * 256 + p)) v))) := But.set _ _ _
  have O : Off [s] W (W.setCell ⟨s, x * 256 + p, none⟩ (.int .u8 (bits .xor .u8 (D.sec (x * 256 + p)) v))) := Off.but B (by simp)
  have e1 := h.ds
  have e2 := h.sm
  exact { h with recd := h.recd.off O (by simp; omega), row := h.row.set _ _, map := h.map.off O (by simp; omega), sb := fun j hj => (by
    show 0 ≤ upd D.sec _ _ j ∧ upd D.sec _ _ j < 256
    unfold upd
    split
    · exact xor_byte _ _ (h.sb _ (by omega)) hv
    · exact h.sb j hj) }
set_option maxRecDepth 100000 in
set_option maxHeartbeats 1000000 in
theorem turn_ok (W : World) (d s m x p : Nat) (D : Dsk) (v : Int) (h : DiskAt W d s m D) (hx : x < D.N) (hp : p < 256) (hv : 0 ≤ v ∧ v < 256) :
    Calls Tryd.prog 17 #[.pointer (some ⟨d, 0, none⟩), .int .i64 (x : Int), .int .i64 (p : Int), .int .u8 v] W fun e w' => e = .returned (.int .i64 0) ∧ DiskAt w' d s m (D.turn x p v) ∧ Off [s] W w' := by
  obtain ⟨c1, _⟩ := h.recd.cel 1 _ rfl
  have c2 := h.row.1 (x * 256 + p) (by omega)
  have f2 := h.row.2.1 (x * 256 + p)
  have HD : Hid (DiskAt W d s m D) := h
  have PP : Hid (DiskAt (W.drew.setCell ⟨s, x * 256 + p, none⟩ (.int .u8 (bits .xor .u8 (D.sec (x * 256 + p)) v))) d s m (D.turn x p v) ∧ Off [s] W (W.drew.setCell ⟨s, x * 256 + p, none⟩ (.int .u8 (bits .xor .u8 (D.sec (x * 256 + p)) v)))) := ⟨h.drew.turned x p v hx hp hv, (Off.refl [s] W).drew.trans (Off.set _ _ _ (by simp))⟩
  have p0 : ¬ (p : Int) < 0 := by omega
  have p1 : ¬ (256 : Int) ≤ p := by omega
  have x0 : ¬ (x : Int) < 0 := by omega
  have x1 : ¬ (D.N : Int) ≤ x := by omega
  have x2 : (x : Int) < D.N := by omega
  have p2 : (p : Int) < 256 := by omega
  have x3 : (0 : Int) ≤ x := by omega
  have p3 : (0 : Int) ≤ p := by omega
  have sd : ¬ s = d := fun e => h.ds e.symm
  clear h
  go_enter Tryd.func17, Tryd.ntmps17
  go_wp2_with (go_at_call 40; refine (made_ok _ d s m D HD.out).mono ?_; rintro e w1 ⟨rfl, rfl⟩)
  go_region
  go_wp2_with fail
  go_ret
  exact ⟨rfl, PP.out⟩
end Go.Proofs.YtijpoipcadhchaaDoor
namespace Go.Proofs.YtijpoipcadhchaaDoor
open Go.RowKit Go.Maps
/-- append where there is room. -/
theorem app_room (ty : TypeId) (W : World) (base n m C g cap : Nat) (a : Option Addr) (F G : Nat → Int) (ho : Own W base (.slice (some ⟨g, 0, none⟩) n cap) n F) (hm0 : 0 < m) (hA : Arg W a m G) (hroom : n + m ≤ cap) :
    ∃ W', (Builtin.append_ #[27, 27] ty #[.slice (some ⟨g, 0, none⟩) n cap, .slice a m C]).run Tryd.prog W = .ok (.slice (some ⟨g, 0, none⟩) (n + m) cap) W' ∧ Own W' base (.slice (some ⟨g, 0, none⟩) (n + m) cap) (n + m) (cat F n G) ∧ But g W W' := by
  obtain ⟨i0, hi, hz0, hz1, hz2⟩ := info_parts info_u8
  have hlen : (cl .u8 n F ++ cl .u8 m G).length = n + m := by simp [cl_len]
  rcases hA with ⟨h, _⟩ | ⟨_, b, off, rfl, hl⟩
  · omega
  have hnews : ∀ j u, (cl .u8 m G)[j]? = some u → W.cell? ((⟨b, off, none⟩ : Addr).add j) = some u := fun j u hj => by obtain ⟨h, rfl⟩ := cl_at' hj; rw [Addr.add_mid]; exact hl.1 j h
  rcases ho.2 with ⟨h, _⟩ | ⟨g', cap', cur, hv, hbg, hg, hnc, hcm, hcs, htake⟩
  · cases h
  injection hv with hv _ hc
  injection hv with hv
  injection hv with hv
  subst hv hc
  have hr := run_append_room (P := Tryd.prog) W 27 ty 5 i0 Tryd.underlying27 hi g n cap cur hg ⟨b, off, none⟩ m C (cl .u8 m G) (by rw [cl_len, hz1, Nat.mul_one]) hnews (cl_one _ _ _) hroom (by rw [cl_len, hcs, hz1]; omega)
  refine ⟨_, hr, ⟨by simp [cl_len], .inr ⟨g, cap, _, rfl, hbg, setRow_heap W g cur _ 5 _ hg, hroom, hcm, ?_, ?_⟩⟩, ?_⟩
  · simp only [List.size_toArray, List.length_append, List.length_take, List.length_drop, Array.length_toList, cl_len, hz1]
    omega
  · rw [Nat.mul_one] at htake ⊢
    rw [hz1, Nat.mul_one, htake, ← cl_cat, ← hlen]
    exact List.take_left
  · exact ⟨rfl, rfl, rfl, by simp, fun k _ hk => setRow_other W g k _ (fun e => hk e)⟩
theorem Own.irow {w : World} {base g n : Nat} {F : Nat → Int} (h : Own w base (.slice (some ⟨g, 0, none⟩) n n) n F) : IRow w g .u8 n F := by
  rcases h.2 with ⟨h, _⟩ | ⟨g', cap', cur, hv, hbg, hg, hnc, _, hsz, htake⟩
  · cases h
  injection hv with hv _ hc
  injection hv with hv
  injection hv with hv
  subst hv hc
  refine ⟨fun j hj => ?_, fun j => by simp [World.frozen?, hg], (Array.getElem?_eq_some_iff.1 hg).1⟩
  rw [cell_of_row w g j cur 5 (0, 0) hg]
  have := cl_at .u8 n F j hj
  rw [← htake, List.getElem?_take, if_pos (by omega)] at this
  simpa using this
theorem read_down (W : World) (d s m : Nat) (D : Dsk) (l : Int) (o : Bool) (x n : Int) (h : DiskAt W d s m D) (hf : FuseIs W D.fz l o) (hu : D.up o = false) :
    Calls Tryd.prog 42 #[.pointer (some ⟨d, 0, none⟩), .int .i64 x, .int .i64 n] W fun e w' => e = .returned (.tuple #[.slice none 0 0, .int .i64 11]) ∧ w' = W := by
  have HD : Hid (DiskAt W d s m D) := h
  have HF : Hid (FuseIs W D.fz l o) := hf
  have HU : Hid (D.up o = false) := hu
  clear h hf hu
  go_enter Tryd.func42, Tryd.ntmps42
  go_wp2_with (go_at_call 51; refine (ready_ok _ d s m D l o HD.out HF.out).mono ?_; rintro e w1 ⟨rfl, rfl⟩; rw [HU.out, if_neg (by simp)])
  go_ret2
  exact ⟨rfl, rfl⟩
theorem read_range (W : World) (d s m : Nat) (D : Dsk) (l : Int) (o : Bool) (x n : Int) (h : DiskAt W d s m D) (hf : FuseIs W D.fz l o) (hu : D.up o = true) (hx : x < 9223372036854775808) (hh : hasB D.N x n = false) :
    Calls Tryd.prog 42 #[.pointer (some ⟨d, 0, none⟩), .int .i64 x, .int .i64 n] W fun e w' => e = .returned (.tuple #[.slice none 0 0, .int .i64 5]) ∧ w' = W := by
  have HD : Hid (DiskAt W d s m D) := h
  have HF : Hid (FuseIs W D.fz l o) := hf
  have HU : Hid (D.up o = true) := hu
  have HH : Hid (hasB D.N x n = false) := hh
  clear h hf hu hh
  go_enter Tryd.func42, Tryd.ntmps42
  go_wp2_with (first
    | (go_at_call 51; refine (ready_ok _ d s m D l o HD.out HF.out).mono ?_; rintro e w1 ⟨rfl, rfl⟩; rw [HU.out, if_pos rfl])
    | (go_at_call 61; refine (has_ok _ d s m D x n HD.out hx).mono ?_; rintro e w1 ⟨rfl, rfl⟩; rw [HH.out]))
  go_ret2
  exact ⟨rfl, rfl⟩
/-- What holds at the head of the loop. -/
def readRel (w : World) (n : Nat) (F : Nat → Int) (v i : Value) (wr : World) : Prop := ∃ k : Nat, k ≤ n ∧ i = .int .i64 k ∧ v = .slice (some ⟨w.heap.size, 0, none⟩) (k * 256) (n * 256) ∧ Own wr w.heap.size (.slice (some ⟨w.heap.size, 0, none⟩) (k * 256) (n * 256)) (k * 256) F ∧ Below w.heap.size w wr
theorem read_step (w wr w1 : World) (n k : Nat) (F : Nat → Int) (hk : k < n) (bel : Below w.heap.size w wr)
    (ho : Own w1 w.heap.size (.slice (some ⟨w.heap.size, 0, none⟩) (k * 256 + 256) (n * 256)) (k * 256 + 256) (cat F (k * 256) (fun j => F (k * 256 + j)))) (hB : But w.heap.size wr w1) :
    readRel w n F (.slice (some ⟨w.heap.size, 0, none⟩) (k * 256 + 256) (n * 256)) (.int .i64 ((k : Int) + 1)) w1 := by
  have ho' := ho.congr (G := F) (fun j hj => by
    unfold cat
    by_cases q : j < k * 256
    · rw [if_pos q]
    · rw [if_neg q]; show F (k * 256 + (j - k * 256)) = F j; rw [show k * 256 + (j - k * 256) = j by omega])
  rw [show k * 256 + 256 = (k + 1) * 256 by omega] at ho' ⊢
  exact ⟨k + 1, by omega, by go_num, rfl, ho', bel.trans (hB.below (Nat.le_refl _) bel.size)⟩
/-- What Read answers: bytes in a block of just that size. -/
def ReadPost (W : World) (n : Nat) (F : Nat → Int) (e : Ending) (w' : World) : Prop := e = .returned (.tuple #[.slice (some ⟨W.heap.size, 0, none⟩) (n * 256) (n * 256), .int .i64 0]) ∧ IRow w' W.heap.size .u8 (n * 256) F ∧ Below W.heap.size W w'
set_option maxRecDepth 100000 in
set_option maxHeartbeats 1000000 in
theorem dread_ok (W : World) (d s m x n : Nat) (D : Dsk) (l : Int) (o : Bool) (h : DiskAt W d s m D) (hf : FuseIs W D.fz l o) (hu : D.up o = true) (hx : x + n ≤ D.N) :
    Calls Tryd.prog 42 #[.pointer (some ⟨d, 0, none⟩), .int .i64 (x : Int), .int .i64 (n : Int)] W (ReadPost W n (fun j => D.sec (x * 256 + j))) := by
  obtain ⟨i0, hi, hz0, hz1, hz2⟩ := info_parts info_u8
  have h2 := h.n2
  obtain ⟨W0, hmk0, hown0, hg0⟩ := run_make_own (P := Tryd.prog) W W.heap.size 27 5 i0 (.int .u8 0) 1 Tryd.underlying27 hi hz0 hz1 .i64 .i64 (n * 256) (by rw [hz2]; omega) (by unfold maxLen; omega) (Nat.le_refl _)
  have hmk : (Instr.makeSlice 27 (.int .i64 0) (.int .i64 ((n : Int) * 256))).run Tryd.prog W = .ok (.slice (some ⟨W.heap.size, 0, none⟩) 0 (n * 256)) W0 := by
    rw [show ((n * 256 : Nat) : Int) = (n : Int) * 256 by omega] at hmk0
    exact hmk0
  have ST : Hid (readRel W n (fun j => D.sec (x * 256 + j)) (.slice (some ⟨W.heap.size, 0, none⟩) 0 (n * 256)) (.int .i64 0) W0) := ⟨0, by omega, rfl, by rw [Nat.zero_mul], by rw [Nat.zero_mul]; exact hown0, (Below.refl _ _).grown hg0 (Nat.le_refl _) (fun k hk => by cases hk)⟩
  have HD : Hid (DiskAt W d s m D) := h
  have HF : Hid (FuseIs W D.fz l o) := hf
  have HU : Hid (D.up o = true) := hu
  have HH : Hid (hasB D.N x n = true) := by show hasB D.N x n = true; unfold hasB; simp; omega
  have m1 : wrap64 ((n : Int) * 256) = (n : Int) * 256 := by unfold wrap64; omega
  have m2 : IntKind.i64.wrap ((n : Int) * 256) = (n : Int) * 256 := by rw [IntKind.wrap_i64]; omega
  clear h hf hu hmk0 hown0 hg0
  go_enter Tryd.func42, Tryd.ntmps42
  go_wp2_with (first
    | (go_at_call 51; refine (ready_ok _ d s m D l o HD.out HF.out).mono ?_; rintro e w1 ⟨rfl, rfl⟩; rw [HU.out, if_pos rfl])
    | (go_at_call 61; refine (has_ok _ d s m D x n HD.out (by omega)).mono ?_; rintro e w1 ⟨rfl, rfl⟩; rw [HH.out]))
  go_loopw [9, 25] (fun v i wr => readRel w1 n (fun j => D.sec (x * 256 + j)) v i wr) (fun _ i _ => n - (RowKit.intOf i).toNat)
  case atStart => exact ST.out
  case round =>
    obtain ⟨k, hk, rfl, rfl, hown, bel⟩ := hrel
    clear ST hmk
    have BE : Hid (Below w1.heap.size w1 wr) := bel
    by_cases hlt : k < n
    · have i1 : (k : Int) < n := by omega
      have D1 := HD.out.below bel
      obtain ⟨c1, _⟩ := D1.recd.cel 1 _ rfl
      have i2 : wrap64 ((x : Int) + k) = (x : Int) + k := by unfold wrap64; omega
      have i3 : IntKind.i64.wrap ((x : Int) + k) = (x : Int) + k := by rw [IntKind.wrap_i64]; omega
      have i4 : (0 : Int) ≤ (x : Int) + k := by omega
      have i5 : (x : Int) + k < D.N := by omega
      have i6 : ((x : Int) + k).toNat = x + k := by omega
      have l1 : Lies wr s ((x + k) * 256) 256 (fun j => D.sec (x * 256 + (k * 256 + j))) := ⟨fun j hj => by rw [D1.row.1 _ (by omega), show (x + k) * 256 + j = x * 256 + (k * 256 + j) by omega], fun j hj => by have := D1.sb ((x + k) * 256 + j) (by omega); rwa [show (x + k) * 256 + j = x * 256 + (k * 256 + j) by omega] at this, D1.sl⟩
      obtain ⟨w4, hr4, hO4, hB4⟩ := app_room 27 wr w1.heap.size (k * 256) 256 256 w1.heap.size (n * 256) (some ⟨s, (x + k) * 256, none⟩) (fun j => D.sec (x * 256 + j)) _ hown (by omega) (Arg.of l1) (by omega)
      have RR : Hid (readRel w1 n (fun j => D.sec (x * 256 + j)) (.slice (some ⟨w1.heap.size, 0, none⟩) (k * 256 + 256) (n * 256)) (.int .i64 ((k : Int) + 1)) w4) := read_step w1 wr w4 n k _ hlt bel hO4 hB4
      clear l1 hO4 hB4 D1 bel hown
      go_wp2_with (at_builtin; refine wpList_append_go rfl _ _ 27 27 rfl _ _ rfl rfl hr4 ?_)
      go_roundw
      case rel => exact RR.out
      case measure => simp [RowKit.intOf]; omega
    · obtain rfl : k = n := by omega
      go_wp2_with fail
      exact bodyPost_ret (by simp [results, Tryd.results42, go_sem]) rfl ⟨rfl, hown.irow, BE.out⟩
end Go.Proofs.YtijpoipcadhchaaDoor
namespace Go.Proofs.YtijpoipcadhchaaDoor
open Go.RowKit Go.Maps
theorem Dsk.wrote_out (D : Dsk) (a : Nat) (F : Nat → Int) : ∀ k, (D.wrote a F k).out = D.out
  | 0 => rfl
  | k + 1 => D.wrote_out a F k
theorem Dsk.wrote_lo (D : Dsk) (a : Nat) (F : Nat → Int) (n : Nat) : ∀ k, (D.wrote a F k).lo n = (decide (a ≤ n ∧ n < a + k) || D.lo n)
  | 0 => by
    have : ¬ (a ≤ n ∧ n < a + 0) := by omega
    show D.lo n = _
    rw [decide_eq_false this, Bool.false_or]
  | k + 1 => by
    show setB (D.wrote a F k).lo (a + k) n = _
    unfold setB
    rw [D.wrote_lo a F n k]
    by_cases e : n = a + k
    · rw [if_pos e, decide_eq_true (by omega), Bool.true_or]
    · rw [if_neg e, show decide (a ≤ n ∧ n < a + k) = decide (a ≤ n ∧ n < a + (k + 1)) from by rw [decide_eq_decide]; omega]
theorem Dsk.wrote_sec (D : Dsk) (a : Nat) (F : Nat → Int) (n j : Nat) (hj : j < 256) : ∀ k, at256 (D.wrote a F k).sec n j = if a ≤ n ∧ n < a + k then F ((n - a) * 256 + j) else at256 D.sec n j
  | 0 => by rw [if_neg (by omega)]; rfl
  | k + 1 => by
    show at256 (putF (D.wrote a F k).sec (a + k) (fun j => F (k * 256 + j))) n j = _
    by_cases e : n = a + k
    · subst e
      rw [putF_same _ _ _ _ hj, if_pos (by omega), show a + k - a = k by omega]
    · rw [putF_other _ _ _ _ _ hj e, D.wrote_sec a F n j hj k]
      by_cases g : a ≤ n ∧ n < a + k
      · rw [if_pos g, if_pos (by omega)]
      · rw [if_neg g, if_neg (by omega)]
theorem Dsk.wrote_ob (D : Dsk) (a : Nat) (F : Nat → Int) (n j : Nat) (hj : j < 256) : ∀ k, at256 (D.wrote a F k).ob n j = if (a ≤ n ∧ n < a + k) ∧ D.lo n = false then at256 D.sec n j else at256 D.ob n j
  | 0 => by rw [if_neg (by omega)]; rfl
  | k + 1 => by
    show at256 (if (D.wrote a F k).lo (a + k) = true then (D.wrote a F k).ob else putF (D.wrote a F k).ob (a + k) (at256 (D.wrote a F k).sec (a + k))) n j = _
    have l1 := D.wrote_lo a F (a + k) k
    rw [decide_eq_false (by omega), Bool.false_or] at l1
    rw [l1]
    by_cases e : n = a + k
    · subst e
      by_cases g : D.lo (a + k) = true
      · rw [if_pos g, D.wrote_ob a F (a + k) j hj k, if_neg (by omega), if_neg (fun q => by rw [q.2] at g; cases g)]
      · rw [if_neg g, putF_same _ _ _ _ hj, D.wrote_sec a F (a + k) j hj k, if_neg (by omega), if_pos ⟨by omega, by simpa using g⟩]
    · have key : at256 (D.wrote a F k).ob n j = if (a ≤ n ∧ n < a + (k + 1)) ∧ D.lo n = false then at256 D.sec n j else at256 D.ob n j := by
        rw [D.wrote_ob a F n j hj k]
        by_cases g : (a ≤ n ∧ n < a + k) ∧ D.lo n = false
        · rw [if_pos g, if_pos ⟨by omega, g.2⟩]
        · rw [if_neg g, if_neg (fun q => g ⟨by omega, q.2⟩)]
      split
      · exact key
      · rw [putF_other _ _ _ _ _ hj e]
        exact key
/-- A disk that was made behind w0, and all that lies before w0 is as it was. -/
structure St (w0 W : World) (d s m : Nat) (D : Dsk) : Prop where
  at' : DiskAt W d s m D
  hd : w0.heap.size ≤ d
  hs : w0.heap.size ≤ s
  hm : w0.heap.size ≤ m
  bel : Below w0.heap.size w0 W
theorem St.below {w0 W W' : World} {d s m : Nat} {D : Dsk} (h : St w0 W d s m D) (hB : Below W.heap.size W W') : St w0 W' d s m D := ⟨h.at'.below hB, h.hd, h.hs, h.hm, h.bel.trans (hB.mono h.bel.size)⟩
theorem St.of {w0 W W' : World} {d s m : Nat} {D D' : Dsk} {bs : List Nat} {m' : Nat} (h : St w0 W d s m D) (hb : ∀ b, b ∈ bs → b = d ∨ b = s ∨ b = m) (hO : Off bs W W') (hm' : m' = m ∨ W.heap.size ≤ m') (hD : DiskAt W' d s m' D') : St w0 W' d s m' D' :=
  ⟨hD, h.hd, h.hs, by rcases hm' with rfl | g; (· exact h.hm); (· exact Nat.le_trans h.bel.size g), h.bel.trans (hO.below (fun b q => by have h1 := h.hd; have h2 := h.hs; have h3 := h.hm; rcases hb b q with rfl | rfl | rfl <;> omega) h.bel.size)⟩
/-- What a step of such a disk answers. -/
def StPost (w0 W : World) (d s : Nat) (D : Dsk) (bs : List Nat) (c : Int) (e : Ending) (w' : World) : Prop := e = .returned (.int .i64 c) ∧ ∃ m', St w0 w' d s m' D ∧ (m' ∈ bs ∨ W.heap.size ≤ m') ∧ Off bs W w'
/-- No fuse, and up. -/
def Dsk.free (D : Dsk) : Prop := D.fz = none ∧ D.out = false ∧ 0 ≤ D.ops ∧ D.ops ≤ 1000000
theorem Dsk.free.up {D : Dsk} (h : D.free) : D.up false = true := by unfold Dsk.up; rw [h.2.1]; rfl
theorem Dsk.free.pass {D : Dsk} (h : D.free) (l : Int) : fzPass D.fz l = true := by rw [h.1]; rfl
theorem Dsk.free.fuse {D : Dsk} (h : D.free) (W : World) (l : Int) : FuseIs W D.fz l false := by rw [h.1]; rfl
theorem Dsk.free.ok {D : Dsk} (h : D.free) (d s m : Nat) : FzOk D d s m := fun q e => by rw [h.1] at e; cases e
theorem st_write (w0 W : World) (d s m a b off c n C : Nat) (i : Int) (D : Dsk) (f : Nat → Int) (h : St w0 W d s m D) (hf : D.free) (hi : i = a) (hn : n = c * 256) (hL : Lies W b off (c * 256) f) (hc1 : 1 ≤ c) (hc : c ≤ 80) (hC : c * 256 ≤ C) (ha : a + c ≤ D.N) (hb : b ≠ s ∧ b ≠ m) :
    Calls Tryd.prog 50 #[.pointer (some ⟨d, 0, none⟩), .int .i64 i, .slice (some ⟨b, off, none⟩) n C] W (StPost w0 W d s (D.wrote a f c).more [d, s, m] 0) := by
  subst hi hn
  refine (write_ok W d s m a b off c C D f 0 false h.at' (hf.fuse W 0) (hf.ok d s m) hf.up (hf.pass 0) hL hc1 hc hC ha hb (fun q e => by rw [hf.1] at e; cases e) hf.2.2).mono ?_
  rintro e w' ⟨rfl, hD, _, hO⟩
  rw [hf.1] at hO
  exact ⟨rfl, m, h.of (bs := [d, s, m]) (fun b q => by simpa using q) hO (.inl rfl) hD, .inl (by simp), hO⟩
theorem st_flush (w0 W : World) (d s m : Nat) (D : Dsk) (h : St w0 W d s m D) (hf : D.free) :
    Calls Tryd.prog 31 #[.pointer (some ⟨d, 0, none⟩)] W (StPost w0 W d s D.safe.more [d, m] 0) := by
  refine (flush_ok W d s m D 0 false h.at' (hf.fuse W 0) (hf.ok d s m) hf.up (hf.pass 0) (fun q e => by rw [hf.1] at e; cases e) hf.2.2).mono ?_
  rintro e w' ⟨rfl, m', hm', hD, _, hO⟩
  rw [hf.1] at hO
  have hO' : Off [d] W w' := hO
  have hm2 : W.heap.size ≤ m' ∨ m' = d := by rcases hm' with g | g; (· exact .inr (by simpa using g)); (· exact .inl g)
  have hm3 : W.heap.size ≤ m' := by rcases hm2 with g | g; (· exact g); (· exact absurd g.symm hD.dm)
  exact ⟨rfl, m', h.of (bs := [d]) (fun b q => .inl (by simpa using q)) hO' (.inr hm3) hD, .inr hm3, hO'.mono (fun b q => by simp at q; simp [q])⟩
end Go.Proofs.YtijpoipcadhchaaDoor
namespace Go.Proofs.YtijpoipcadhchaaDoor
open Go.RowKit Go.Maps
/-- A disk of few changes, without a fuse, up. -/
def Dsk.few (D : Dsk) (n : Int) : Prop := D.fz = none ∧ D.out = false ∧ 0 ≤ D.ops ∧ D.ops ≤ n
theorem Dsk.few.free {D : Dsk} {n : Int} (h : D.few n) (hn : n ≤ 1000000) : D.free := ⟨h.1, h.2.1, h.2.2.1, by have := h.2.2.2; omega⟩
theorem Dsk.few.mono {D : Dsk} {n n' : Int} (h : D.few n) (hn : n ≤ n') : D.few n' := ⟨h.1, h.2.1, h.2.2.1, by have := h.2.2.2; omega⟩
theorem Dsk.few.wrote {D : Dsk} {n : Int} (h : D.few n) (a : Nat) (F : Nat → Int) (k : Nat) : ((D.wrote a F k).more).few (n + 1) := by
  obtain ⟨h1, h2, h3, h4⟩ := h
  refine ⟨(D.wrote_fz a F k).trans h1, (D.wrote_out a F k).trans h2, ?_, ?_⟩
  · show 0 ≤ (D.wrote a F k).ops + 1; rw [D.wrote_ops]; omega
  · show (D.wrote a F k).ops + 1 ≤ n + 1; rw [D.wrote_ops]; omega
theorem Dsk.few.safe {D : Dsk} {n : Int} (h : D.few n) : (D.safe.more).few (n + 1) := by
  obtain ⟨h1, h2, h3, h4⟩ := h
  exact ⟨h1, h2, by show 0 ≤ D.ops + 1; omega, by show D.ops + 1 ≤ n + 1; omega⟩
/-- What keep makes of a disk. -/
def Dsk.kept (D : Dsk) (a : Nat) (F : Nat → Int) (k : Nat) : Dsk := ((D.wrote a F k).more).safe.more
theorem Dsk.few.kept {D : Dsk} {n : Int} (h : D.few n) (a : Nat) (F : Nat → Int) (k : Nat) : (D.kept a F k).few (n + 2) := by
  have := (h.wrote a F k).safe
  exact this.mono (by omega)
theorem Dsk.kept_N (D : Dsk) (a : Nat) (F : Nat → Int) (k : Nat) : (D.kept a F k).N = D.N := D.wrote_N a F k
end Go.Proofs.YtijpoipcadhchaaDoor
namespace Go.Proofs.YtijpoipcadhchaaDoor
open Go.RowKit Go.Maps Go.Shelf
/-- The rings' bytes, read. -/
def JReadP (W : World) (G : Nat → Int) (e : Ending) (w' : World) : Prop := e = .returned (.tuple #[.slice (some ⟨W.heap.size, 0, none⟩) 4096 24576, .slice (some ⟨W.heap.size, 4096, none⟩) 20480 20480, .int .i64 0]) ∧ IRow w' W.heap.size .u8 24576 G ∧ Below W.heap.size W w'
set_option maxRecDepth 100000 in
theorem jread_ok (w0 W : World) (d s m : Nat) (D : Dsk) (h : St w0 W d s m D) (hf : D.free) (hN : 104 ≤ D.N) : Calls Tryd.prog 24 #[.pointer (some ⟨d, 0, none⟩)] W (JReadP W (fun j => D.sec (8 * 256 + j))) := by
  have RD : Hid (Calls Tryd.prog 42 #[.pointer (some ⟨d, 0, none⟩), .int .i64 8, .int .i64 96] W (ReadPost W 96 (fun j => D.sec (8 * 256 + j)))) := dread_ok W d s m 8 96 D 0 false h.at' (hf.fuse W 0) hf.up (by omega)
  clear h hf hN
  go_enter Tryd.func24, Tryd.ntmps24
  go_wp2_with (go_at_call 42; refine RD.out.mono ?_; rintro e w1 ⟨rfl, h1, h2⟩; have H1 : Hid (IRow w1 W.heap.size .u8 24576 (fun j => D.sec (8 * 256 + j)) ∧ Below W.heap.size W w1) := ⟨h1, h2⟩; clear h1 h2)
  refine wp_region_noPanic ?_
  refine wp_region_held_drew (S := fun _ => True) (by kernel_rfl) ?_ (fun hHeld => ?_)
  · trivial
  refine take_at (i := 0) (v := ?_) (some 15) rfl rfl (by kernel_rfl) (by kernel_rfl) (by kernel_rfl) (fun _ _ _ h => h) (Or.inl ⟨by rfl, ?_⟩) (by assumption) ?_
  rotate_left
  · (intro w hSw; (try dsimp only at hSw); go_simp; try with_reducible rfl)
  simp only [Act.put, List.setIfInBounds_toArray, List.set_cons_zero, List.set_cons_succ]
  refine take_at (i := 1) (v := ?_) (some 16) rfl rfl (by kernel_rfl) (by kernel_rfl) (by kernel_rfl) (fun _ _ _ h => h) (Or.inl ⟨by rfl, ?_⟩) (by assumption) ?_
  rotate_left
  · (intro w hSw; (try dsimp only at hSw); go_simp; try with_reducible rfl)
  simp only [Act.put, List.setIfInBounds_toArray, List.set_cons_zero, List.set_cons_succ]
  refine take_at (i := 2) (v := ?_) (some 17) rfl rfl (by kernel_rfl) (by kernel_rfl) (by kernel_rfl) (fun _ _ _ h => h) (Or.inl ⟨by rfl, ?_⟩) (by assumption) ?_
  rotate_left
  · (intro w hSw; (try dsimp only at hSw); go_simp; try with_reducible rfl)
  simp only [Act.put, List.setIfInBounds_toArray, List.set_cons_zero, List.set_cons_succ]
  refine take_at (i := 3) (v := ?_) (some 18) rfl rfl (by kernel_rfl) (by kernel_rfl) (by kernel_rfl) (fun _ _ _ h => h) (Or.inl ⟨by rfl, ?_⟩) (by assumption) ?_
  rotate_left
  · (intro w hSw; (try dsimp only at hSw); go_simp; try with_reducible rfl)
  simp only [Act.put, List.setIfInBounds_toArray, List.set_cons_zero, List.set_cons_succ]
  refine take_at (i := 4) (v := ?_) (some 19) rfl rfl (by kernel_rfl) (by kernel_rfl) (by kernel_rfl) (fun _ _ _ h => h) (Or.inl ⟨by rfl, ?_⟩) (by assumption) ?_
  rotate_left
  · (intro w hSw; (try dsimp only at hSw); go_simp; try with_reducible rfl)
  simp only [Act.put, List.setIfInBounds_toArray, List.set_cons_zero, List.set_cons_succ]
  refine take_at (i := 5) (v := ?_) (some 20) rfl rfl (by kernel_rfl) (by kernel_rfl) (by kernel_rfl) (fun _ _ _ h => h) (Or.inl ⟨by rfl, ?_⟩) (by assumption) ?_
  rotate_left
  · (intro w hSw; (try dsimp only at hSw); go_simp; try with_reducible rfl)
  simp only [Act.put, List.setIfInBounds_toArray, List.set_cons_zero, List.set_cons_succ]
  refine take_at (i := 6) (v := ?_) (some 2) rfl rfl (by kernel_rfl) (by kernel_rfl) (by kernel_rfl) (fun _ _ _ h => h) (Or.inl ⟨by rfl, ?_⟩) (by assumption) ?_
  rotate_left
  · (intro w hSw; (try dsimp only at hSw); go_simp; try with_reducible rfl)
  simp only [Act.put, List.setIfInBounds_toArray, List.set_cons_zero, List.set_cons_succ]
  refine take_at (i := 7) (v := ?_) (some 3) rfl rfl (by kernel_rfl) (by kernel_rfl) (by kernel_rfl) (fun _ _ _ h => h) (Or.inl ⟨by rfl, ?_⟩) (by assumption) ?_
  rotate_left
  · (intro w hSw; (try dsimp only at hSw); go_simp; try with_reducible rfl)
  simp only [Act.put, List.setIfInBounds_toArray, List.set_cons_zero, List.set_cons_succ]
  refine take_at (i := 8) (v := ?_) (some 4) rfl rfl (by kernel_rfl) (by kernel_rfl) (by kernel_rfl) (fun _ _ _ h => h) (Or.inl ⟨by rfl, ?_⟩) (by assumption) ?_
  rotate_left
  · (intro w hSw; (try dsimp only at hSw); go_simp; try with_reducible rfl)
  simp only [Act.put, List.setIfInBounds_toArray, List.set_cons_zero, List.set_cons_succ]
  refine wpAnyH_done (by kernel_rfl) ?_ _
  refine NoPanic.normal ?_
  clear hHeld
  have E1 : Hid (IRow w1.drew W.heap.size .u8 24576 (fun j => D.sec (8 * 256 + j)) ∧ Below W.heap.size W w1.drew) := ⟨H1.out.1, H1.out.2.drew⟩
  go_wp2_with fail
  exact bodyPost_ret (v := .tuple #[.slice (some ⟨W.heap.size, 0, none⟩) 4096 24576, .slice (some ⟨W.heap.size, 4096, none⟩) 20480 20480, .int .i64 0]) (by simp [results, Tryd.results24, go_sem]) rfl ⟨rfl, E1.out.1, E1.out.2⟩
theorem judged_mk (F : Fence) (n : Nat) (h5 : F.fn 25) (hro : F.round = none) (a b : Option Addr) (k c k' c' : Nat) (w : World) :
    CallsIn F n Tryd.prog 25 #[.slice a k c, .slice b k' c'] w fun e w' => e = .returned (.func (.func 46) #[] #[.pointer (some ⟨w.heap.size, 0, none⟩), .pointer (some ⟨w.heap.size + 1, 0, none⟩)]) ∧ w' = (w.alloc (.cells #[.slice a k c] 27)).alloc (.cells #[.slice b k' c'] 27) := by
  refine callsIn_of_wp Tryd.func25 rfl h5 ?_ hro
  simp only [Tryd.ntmps25, List.size_toArray, List.length_cons, List.length_nil, Nat.reduceAdd, Nat.reduceSub, Array.replicate_succ, Array.replicate_zero, List.push_toArray, List.append_toArray, List.nil_append, List.cons_append]
  gi_wp2
  go_ret
  exact ⟨by simp, rfl⟩
theorem slotL_ss (G : Nat → Int) (k : Nat) : ∃ st op vw mm, slotL G k = ss st op vw mm := by
  unfold slotL judgeL
  repeat' split
  all_goals exact ⟨_, _, _, _, rfl⟩
/-- The cells of a journal's states. -/
def stC (G : Nat → Int) (k i : Nat) : Value := if i / 4 < k then (slotL G (i / 4)).getD (i % 4) undef else (ss 0 0 0 false).getD (i % 4) undef
/-- A journal in memory: itself, its disk, and the states, of which the first k are those of these bytes. -/
structure JAt (W : World) (j d : Nat) (C : Nat → Value) : Prop where
  self : W.cell? ⟨j, 0, none⟩ = some (.pointer (some ⟨j, 0, none⟩))
  dsk : W.cell? ⟨j, 1, none⟩ = some (.pointer (some ⟨d, 0, none⟩))
  c : ∀ i, i < 64 → W.cell? ⟨j, 2 + i, none⟩ = some (C i)
  f : ∀ i, i < 66 → W.frozen? ⟨j, i, none⟩ = false
  l : j < W.heap.size
theorem JAt.off {W W' : World} {j d : Nat} {C : Nat → Value} {bs : List Nat} (h : JAt W j d C) (hO : Off bs W W') (hj : j ∉ bs) : JAt W' j d C :=
  ⟨(hO.cell (p := ⟨j, 0, none⟩) h.l hj).trans h.self, (hO.cell (p := ⟨j, 1, none⟩) h.l hj).trans h.dsk, fun i hi => (hO.cell (p := ⟨j, 2 + i, none⟩) h.l hj).trans (h.c i hi), fun i hi => (hO.frozen (p := ⟨j, i, none⟩) h.l hj).trans (h.f i hi), Nat.lt_of_lt_of_le h.l hO.size⟩
theorem JAt.below {W W' : World} {j d : Nat} {C : Nat → Value} (h : JAt W j d C) (hB : Below W.heap.size W W') : JAt W' j d C := h.off (Off.of (bs := []) hB) (by simp)
theorem JAt.congr {W : World} {j d : Nat} {C C' : Nat → Value} (h : JAt W j d C) (e : ∀ i, i < 64 → C i = C' i) : JAt W j d C' := ⟨h.self, h.dsk, fun i hi => by rw [← e i hi]; exact h.c i hi, h.f, h.l⟩
/-- One cell is written. -/
theorem JAt.set {W : World} {j d i : Nat} {C : Nat → Value} (h : JAt W j d C) (hi : i < 64) (v : Value) : JAt (W.setCell ⟨j, 2 + i, none⟩ v) j d (fun q => if q = i then v else C q) := by
  refine ⟨?_, ?_, fun q hq => ?_, fun q hq => by rw [World.frozen?_setCell]; exact h.f q hq, by simp [World.setCell]; exact h.l⟩
  · rw [World.cell?_setCell_other _ _ _ _ (by intro e; injection e with _ e _; omega)]; exact h.self
  · rw [World.cell?_setCell_other _ _ _ _ (by intro e; injection e with _ e _; omega)]; exact h.dsk
  · by_cases e : q = i
    · subst e
      rw [if_pos rfl, World.cell?_setCell_same' _ _ _ (by rw [h.c q hq]; rfl)]
    · rw [if_neg e, World.cell?_setCell_other _ _ _ _ (by intro e'; injection e' with _ e' _; omega)]
      exact h.c q hq
end Go.Proofs.YtijpoipcadhchaaDoor
namespace Go.Proofs.YtijpoipcadhchaaDoor
open Go.RowKit Go.Maps Go.Shelf
attribute [local go_sem] Oper.semAt_some
/-- A journal that is being made. -/
def jC0 (d : Nat) : List Value := .pointer none :: .pointer (some ⟨d, 0, none⟩) :: (List.range 16).flatMap (fun _ => ss 0 0 0 false)
theorem jC0_one (d : Nat) : ∀ v ∈ jC0 d, v.oneCell' = true := by
  intro v hv
  unfold jC0 at hv
  simp only [List.mem_cons, List.mem_flatMap] at hv
  rcases hv with rfl | rfl | ⟨_, _, h⟩
  · rfl
  · rfl
  · exact ss_one _ _ _ _ v h
theorem build_runJ {a : Act} {w : World} {o : Oper} (t : TypeId) (parts : Array (Nat × Operand)) (ho : o.op = .build t parts) (cells : Array Value) (hf : Tryd.prog.built t (parts.map fun (i, x) => (i, a.eval x)).toList = some cells) :
    (execOp a.eval o).run Tryd.prog w = .ok (.value (.agg cells)) w := by
  unfold execOp
  simp only [ho, Sem.run_bind, run_build w t _ cells hf, Result.andThen_ok]
  rfl
theorem jC0_at (d : Nat) (G : Nat → Int) : ∀ i, i < 64 → (jC0 d)[2 + i]? = some (stC G 0 i) := fun i hi => match i, hi with
  | 0, _ => rfl
  | 1, _ => rfl
  | 2, _ => rfl
  | 3, _ => rfl
  | 4, _ => rfl
  | 5, _ => rfl
  | 6, _ => rfl
  | 7, _ => rfl
  | 8, _ => rfl
  | 9, _ => rfl
  | 10, _ => rfl
  | 11, _ => rfl
  | 12, _ => rfl
  | 13, _ => rfl
  | 14, _ => rfl
  | 15, _ => rfl
  | 16, _ => rfl
  | 17, _ => rfl
  | 18, _ => rfl
  | 19, _ => rfl
  | 20, _ => rfl
  | 21, _ => rfl
  | 22, _ => rfl
  | 23, _ => rfl
  | 24, _ => rfl
  | 25, _ => rfl
  | 26, _ => rfl
  | 27, _ => rfl
  | 28, _ => rfl
  | 29, _ => rfl
  | 30, _ => rfl
  | 31, _ => rfl
  | 32, _ => rfl
  | 33, _ => rfl
  | 34, _ => rfl
  | 35, _ => rfl
  | 36, _ => rfl
  | 37, _ => rfl
  | 38, _ => rfl
  | 39, _ => rfl
  | 40, _ => rfl
  | 41, _ => rfl
  | 42, _ => rfl
  | 43, _ => rfl
  | 44, _ => rfl
  | 45, _ => rfl
  | 46, _ => rfl
  | 47, _ => rfl
  | 48, _ => rfl
  | 49, _ => rfl
  | 50, _ => rfl
  | 51, _ => rfl
  | 52, _ => rfl
  | 53, _ => rfl
  | 54, _ => rfl
  | 55, _ => rfl
  | 56, _ => rfl
  | 57, _ => rfl
  | 58, _ => rfl
  | 59, _ => rfl
  | 60, _ => rfl
  | 61, _ => rfl
  | 62, _ => rfl
  | 63, _ => rfl
  | _ + 64, h => absurd h (by omega)
/-- Ahead of the range. -/
theorem open_start {W W1 W2 : World} {d : Nat} {G : Nat → Int} (hT : Tab W) (R1 : IRow W1 W.heap.size .u8 24576 G) (hb : ∀ j, j < 24576 → 0 ≤ G j ∧ G j < 256) (B1 : Below W.heap.size W W1) (R2 : Rec19 W2 W1.heap.size 0 (jC0 d)) (B2 : Below W1.heap.size W1 W2) (z2 : W2.heap.size = W1.heap.size + 1) (t0 t1 t2 : TypeId) (V0 : World)
    (hV : (((W2.setCell ⟨W1.heap.size, 0, none⟩ (.pointer (some ⟨W1.heap.size, 0, none⟩))).alloc (.cells #[.pointer (some ⟨W1.heap.size, 0, none⟩)] t0)).alloc (.cells #[.slice (some ⟨W.heap.size, 0, none⟩) 4096 24576] t1)).alloc (.cells #[.slice (some ⟨W.heap.size, 4096, none⟩) 20480 20480] t2) = V0) :
    JAt V0 W1.heap.size d (stC G 0) ∧ V0.cell? ⟨W1.heap.size + 1, 0, none⟩ = some (.pointer (some ⟨W1.heap.size, 0, none⟩)) ∧ JMem (W1.heap.size + 1 + 1) (W1.heap.size + 1 + 1 + 1) W.heap.size G V0 ∧ Below W.heap.size W V0 ∧ V0.heap.size = W1.heap.size + 4 := by
  obtain ⟨c0, f0⟩ := R2.cel 0 _ rfl
  have U : But W1.heap.size W2 (W2.setCell ⟨W1.heap.size, 0, none⟩ (.pointer (some ⟨W1.heap.size, 0, none⟩))) := But.set _ _ _
  have RS := R2.put 0 (.pointer (some ⟨W1.heap.size, 0, none⟩))
  have zS : (W2.setCell ⟨W1.heap.size, 0, none⟩ (.pointer (some ⟨W1.heap.size, 0, none⟩))).heap.size = W1.heap.size + 1 := by simp [World.setCell]; exact z2
  generalize hS : W2.setCell ⟨W1.heap.size, 0, none⟩ (.pointer (some ⟨W1.heap.size, 0, none⟩)) = WS at *
  have BA : Below WS.heap.size WS V0 := by
    rw [← hV]
    exact (((Below.refl _ _).alloc (Nat.le_refl _) _).alloc (by simp) _).alloc (by simp; omega) _
  have zV : V0.heap.size = W1.heap.size + 4 := by rw [← hV]; simp; omega
  have RV := RS.below BA
  have B1S : Below W1.heap.size W1 WS := B2.trans (U.below (Nat.le_refl _) (by omega))
  have BV : Below W1.heap.size W1 V0 := B1S.trans (BA.mono (by omega))
  have BW : Below W.heap.size W V0 := B1.trans (BV.mono B1.size)
  have hT0 := hT.2
  refine ⟨⟨(RV.cel 0 _ rfl).1, (RV.cel 1 _ rfl).1, fun i hi => ?_, fun i hi => ?_, by omega⟩, ?_, ⟨?_, ?_, ?_, hT.below BW hT0⟩, BW, zV⟩
  · have e : ((jC0 d).set 0 (.pointer (some ⟨W1.heap.size, 0, none⟩)))[2 + i]? = some (stC G 0 i) := by
      rw [List.getElem?_set_ne (by omega)]
      exact jC0_at d G i hi
    exact (RV.cel (2 + i) _ e).1
  · have e : i < ((jC0 d).set 0 (.pointer (some ⟨W1.heap.size, 0, none⟩))).length := by
      rw [List.length_set, show (jC0 d).length = 66 from rfl]
      exact hi
    exact (RV.cel i _ (List.getElem?_eq_getElem e)).2
  · rw [← hV, ← zS]
    simp [go_sem]
  · rw [← hV, show W1.heap.size + 1 + 1 = WS.heap.size + 1 by omega]
    simp [go_sem]
  · rw [← hV, show W1.heap.size + 1 + 1 + 1 = WS.heap.size + 1 + 1 by omega]
    simp [go_sem]
  · exact (R1.lies hb).below BV
/-- Behind k rounds. -/
def opI (V0 : World) (j d : Nat) (G : Nat → Int) (k : Nat) (X : World) : Prop := Off [j] V0 X ∧ JAt X j d (stC G k)
theorem opI_own (V0 : World) (j d : Nat) (G : Nat → Int) (hj : j < V0.heap.size) : OwnFrom V0.heap.size (opI V0 j d G) := by
  rintro k X Y row ⟨h1, h2⟩ hg hr
  obtain ⟨O, hb⟩ := row_off hg hr
  exact ⟨h1.far O (fun b q => .inr (hb b q)), h2.off O (fun q => by have := hb _ q; omega)⟩
theorem JMem.off {Bs Bp g j : Nat} {G : Nat → Int} {V X : World} (h : JMem Bs Bp g G V) (hO : Off [j] V X) (h1 : Bs < V.heap.size ∧ Bs ≠ j) (h2 : Bp < V.heap.size ∧ Bp ≠ j) (h3 : g ≠ j) (h4 : 0 ≠ j) (h5 : 0 < V.heap.size) : JMem Bs Bp g G X :=
  ⟨(hO.cell (p := ⟨Bs, 0, none⟩) h1.1 (by simpa using h1.2)).trans h.ch, (hO.cell (p := ⟨Bp, 0, none⟩) h2.1 (by simpa using h2.2)).trans h.cp, ⟨fun q hq => (hO.cell (p := ⟨g, 0 + q, none⟩) h.l.2.2 (by simpa using h3)).trans (h.l.1 q hq), h.l.2.1, Nat.lt_of_lt_of_le h.l.2.2 hO.size⟩,
   ⟨fun k hk => ⟨(hO.cell (p := ⟨0, _, none⟩) h5 (by simpa using h4)).trans (h.tab.1 k hk).1, (hO.cell (p := ⟨0, _, none⟩) h5 (by simpa using h4)).trans (h.tab.1 k hk).2.1, (hO.cell (p := ⟨0, _, none⟩) h5 (by simpa using h4)).trans (h.tab.1 k hk).2.2⟩, Nat.lt_of_lt_of_le h.tab.2 hO.size⟩⟩
/-- One state more. -/
theorem stC_step {G : Nat → Int} {k : Nat} {st op vw : Int} {mm : Bool} (hs : slotL G k = ss st op vw mm) (i : Nat) : (if i = k * 4 + 3 then Value.bool mm else if i = k * 4 + 2 then Value.int .i64 vw else if i = k * 4 + 1 then Value.int .i64 op else if i = k * 4 then Value.int .i64 st else stC G k i) = stC G (k + 1) i := by
  unfold stC
  by_cases a : i / 4 = k
  · have e : i % 4 = i - k * 4 := by omega
    rw [if_neg (show ¬ i / 4 < k by omega), if_pos (show i / 4 < k + 1 by omega), a, hs, e]
    have r : i = k * 4 ∨ i = k * 4 + 1 ∨ i = k * 4 + 2 ∨ i = k * 4 + 3 := by omega
    rcases r with r | r | r | r
    · rw [if_neg (by omega), if_neg (by omega), if_neg (by omega), if_pos r, show i - k * 4 = 0 by omega]; rfl
    · rw [if_neg (by omega), if_neg (by omega), if_pos r, show i - k * 4 = 1 by omega]; rfl
    · rw [if_neg (by omega), if_pos r, show i - k * 4 = 2 by omega]; rfl
    · rw [if_pos r, show i - k * 4 = 3 by omega]; rfl
  · rw [if_neg (by omega), if_neg (by omega), if_neg (by omega), if_neg (by omega)]
    by_cases b : i / 4 < k
    · rw [if_pos b, if_pos (by omega)]
    · rw [if_neg b, if_neg (by omega)]
theorem st_there {W : World} {j d k : Nat} {G : Nat → Int} (h : JAt W j d (stC G k)) (hk : k < 16) (st op vw : Int) (mm : Bool) :
    (Instr.storeAt 34 (.pointer (some ⟨j, 2 + k * 4, none⟩)) (.agg #[.int .i64 st, .int .i64 op, .int .i64 vw, .bool mm])).run Tryd.prog W = .ok () (W.setCells j (2 + k * 4) (ss st op vw mm)) := by
  have r : Rec19 W j (2 + k * 4) [stC G k (k * 4), stC G k (k * 4 + 1), stC G k (k * 4 + 2), stC G k (k * 4 + 3)] := by
    refine ⟨fun q v hq => ?_, fun q hq => ⟨?_, ?_⟩, h.l⟩
    · match q, hq with
      | 0, hq => injection hq with hq; rw [← hq]; exact h.c (k * 4) (by omega)
      | 1, hq => injection hq with hq; rw [← hq]; exact h.c (k * 4 + 1) (by omega)
      | 2, hq => injection hq with hq; rw [← hq]; exact h.c (k * 4 + 2) (by omega)
      | 3, hq => injection hq with hq; rw [← hq]; exact h.c (k * 4 + 3) (by omega)
      | q + 4, hq => simp at hq
    · have l4 : q < 4 := hq
      rw [Nat.add_assoc, h.c (k * 4 + q) (by omega)]
      rfl
    · have l4 : q < 4 := hq
      exact h.f _ (by omega)
  exact run_storeAt_mid (P := Tryd.prog) W j (2 + k * 4) 34 (ss st op vw mm).toArray r.2.1 (by kernel_rfl) (all_oneCell_toArray (ss_one st op vw mm))
theorem JAt.put {W : World} {j d k : Nat} {G : Nat → Int} (h : JAt W j d (stC G k)) (hk : k < 16) {st op vw : Int} {mm : Bool} (hs : slotL G k = ss st op vw mm) : JAt (W.setCells j (2 + k * 4) (ss st op vw mm)) j d (stC G (k + 1)) :=
  ((((h.set (i := k * 4) (by omega) (.int .i64 st)).set (i := k * 4 + 1) (by omega) (.int .i64 op)).set (i := k * 4 + 2) (by omega) (.int .i64 vw)).set (i := k * 4 + 3) (by omega) (.bool mm)).congr (fun i _ => stC_step hs i)
/-- What Open answers. -/
def OpenP (W : World) (d : Nat) (G : Nat → Int) (e : Ending) (w' : World) : Prop := ∃ j, e = .returned (.tuple #[.pointer (some ⟨j, 0, none⟩), .int .i64 0]) ∧ W.heap.size ≤ j ∧ JAt w' j d (stC G 16) ∧ Below W.heap.size W w'
set_option maxRecDepth 100000 in
set_option maxHeartbeats 2000000 in
theorem jopen_ok (w0 W : World) (d s m : Nat) (D : Dsk) (h : St w0 W d s m D) (hf : D.free) (hN : 104 ≤ D.N) (hT : Tab W) (hb : ∀ j, j < 24576 → 0 ≤ D.sec (8 * 256 + j) ∧ D.sec (8 * 256 + j) < 256) (NG : ∀ g k, k < 16 → NgOk (some ⟨g, 4096 + k * 1280, none⟩) 1280 (20480 - k * 1280) (fun j => D.sec (8 * 256 + (4096 + k * 1280 + j)))) : Calls Tryd.prog 7 #[.pointer (some ⟨d, 0, none⟩)] W (OpenP W d (fun j => D.sec (8 * 256 + j))) := by
  have RD : Hid (Calls Tryd.prog 24 #[.pointer (some ⟨d, 0, none⟩)] W (JReadP W (fun j => D.sec (8 * 256 + j)))) := jread_ok w0 W d s m D h hf hN
  have HT : Hid (Tab W) := hT
  have hT0 : 0 < W.heap.size := hT.2
  clear h hf hN hT
  obtain ⟨G, hG⟩ : ∃ G : Nat → Int, (fun j => D.sec (8 * 256 + j)) = G := ⟨_, rfl⟩
  have NGG : Hid (∀ g k, k < 16 → NgOk (some ⟨g, 4096 + k * 1280, none⟩) 1280 (20480 - k * 1280) (fun j => G (4096 + k * 1280 + j))) := fun g k hk => by rw [← hG]; exact NG g k hk
  have HB : Hid (∀ j, j < 24576 → 0 ≤ G j ∧ G j < 256) := fun j hj => by rw [← hG]; exact hb j hj
  rw [hG] at RD ⊢
  clear NG hG hb
  refine (callsIn_wide (n := 5)).1 ?_
  refine callsIn_of_wp_marks Tryd.func7 rfl trivial ?_ rfl
  simp only [Tryd.ntmps7, List.size_toArray, List.length_cons, List.length_nil, Nat.reduceAdd, Nat.reduceSub, Array.replicate_succ, Array.replicate_zero, List.push_toArray, List.append_toArray, List.nil_append, List.cons_append]
  gi_wp2
  refine ⟨trivial, ?_⟩
  refine CallsIn.mono ((callsIn_wide (n := _)).2 RD.out) ?_
  rintro e W1 ⟨rfl, R1, B1⟩
  have H1 : Hid (IRow W1 W.heap.size .u8 24576 G ∧ Below W.heap.size W W1) := ⟨R1, B1⟩
  have zB : W.heap.size < W1.heap.size := R1.2.2
  clear R1 B1
  gi_wp2_with (first
    | (refine wpListIn_run rfl (by intro c hc; cases hc) (by rfl) _ (build_runJ 38 _ rfl (jC0 d).toArray (by kernel_rfl)) ?_)
    | (refine wpListIn_box_rec rfl 38 (.tmp 20) rfl (jC0 d) rfl ?_; intro W2 R2 B2 z2; have q0 := (R2.cel 0 _ rfl).1; have q1 := (R2.cel 0 _ rfl).2; have H2 : Hid (Rec19 W2 W1.heap.size 0 (jC0 d) ∧ Below W1.heap.size W1 W2) := ⟨R2, B2⟩; clear R2 B2))
  refine ⟨trivial, ?_⟩
  refine CallsIn.mono (judged_mk _ _ trivial rfl _ _ _ _ _ _ _) ?_
  rintro e V0 ⟨rfl, hV⟩
  obtain ⟨J0, P0, M0, BW, zV⟩ := open_start HT.out H1.out.1 HB.out H1.out.2 H2.out.1 H2.out.2 z2 _ _ _ V0 hV.symm
  simp only [World.size_alloc, World.size_setCell, z2]
  clear hV q0 q1 z2 H2
  gi_wp2
  have gj : W1.heap.size < V0.heap.size := by omega
  have hM : ∀ k X, opI V0 W1.heap.size d G k X → JMem (W1.heap.size + 1 + 1) (W1.heap.size + 1 + 1 + 1) W.heap.size G X := fun k X hX => M0.off hX.1 (by omega) (by omega) (by omega) (by omega) (by omega)
  refine range_judged (m := 5) 29 30 (by omega) (W1.heap.size + 1 + 1) (W1.heap.size + 1 + 1 + 1) W.heap.size G (NGG.out _) rfl (opI V0 W1.heap.size d G) (fun _ _ => False) (opI_own V0 _ d G gj) (fun _ _ _ _ h _ _ => h) hM (fun k X X' hX hB => ⟨hX.1.trans (Off.of hB), hX.2.below hB⟩) ⟨Off.refl _ _, J0⟩ ?_ ?_ (fun _ _ _ _ h _ => h.elim)
  · intro l k X hk hI hl1 hl2 hlo
    obtain ⟨st, op, vw, mm, hs⟩ := slotL_ss G k
    rw [hs]
    simp only [List.setIfInBounds_toArray, List.set_cons_zero, List.set_cons_succ]
    gi_wp2_with (first
      | (refine wpListIn_alloc_rec rfl 34 rfl (ss 0 0 0 false) zeroSs ?_; intro Y1 S1 C1 y1 k1)
      | (refine wpListIn_store_rec rfl 34 (.tmp 9) (.tmp 30) rfl X.heap.size 0 _ (ss st op vw mm) rfl rfl S1 rfl (by kernel_rfl) (ss_one _ _ _ _) ?_; intro Y2 S2 C2 y2 k2))
    refine ⟨(k1.trans k2).from _, fun Y3 hB3 hz3 => ?_⟩
    have o3 : Off [W1.heap.size] V0 Y3 := (Off.trans hI.1 (Off.of (C1.trans (C2.below (Nat.le_refl _) (by omega))))).far (Off.but (bs := [l]) hB3 (by simp)) (fun b q => by simp at q; exact .inr (by omega))
    have j3 : JAt Y3 W1.heap.size d (stC G k) := ((hI.2.below (C1.trans (C2.below (Nat.le_refl _) (by omega)))).off (Off.but (bs := [l]) hB3 (by simp)) (by simp; omega))
    have S3 := S2.but hB3 (by omega)
    have a7 : Y3.drew.cell? ⟨W1.heap.size + 1, 0, none⟩ = some (.pointer (some ⟨W1.heap.size, 0, none⟩)) := (o3.cell (p := ⟨W1.heap.size + 1, 0, none⟩) (by show W1.heap.size + 1 < V0.heap.size; omega) (by simp)).trans P0
    have e0 : Y3.drew.cell? ⟨X.heap.size, 0, none⟩ = some (.int .i64 st) := (S3.cel 0 _ rfl).1
    have e1 : Y3.drew.cell? ⟨X.heap.size, 1, none⟩ = some (.int .i64 op) := (S3.cel 1 _ rfl).1
    have e2 : Y3.drew.cell? ⟨X.heap.size, 2, none⟩ = some (.int .i64 vw) := (S3.cel 2 _ rfl).1
    have e3 : Y3.drew.cell? ⟨X.heap.size, 3, none⟩ = some (.bool mm) := (S3.cel 3 _ rfl).1
    have i0 : (k : Int) < 16 := by omega
    have i1 : (0 : Int) ≤ (k : Int) := by omega
    have J3 : Hid (Off [W1.heap.size] V0 Y3 ∧ JAt Y3 W1.heap.size d (stC G k)) := ⟨o3, j3⟩
    have j3d := j3.below (Below.refl _ _).drew
    have c0 : Y3.cell? ⟨W1.heap.size, 2 + k * 4, none⟩ = some (stC G k (k * 4)) := j3.c (k * 4) (by omega)
    have f0 : Y3.frozen? ⟨W1.heap.size, 2 + k * 4, none⟩ = false := j3.f _ (by omega)
    have cd0 : Y3.drew.cell? ⟨W1.heap.size, 2 + k * 4, none⟩ = some (stC G k (k * 4)) := j3.c (k * 4) (by omega)
    have fd0 : Y3.drew.frozen? ⟨W1.heap.size, 2 + k * 4, none⟩ = false := j3.f _ (by omega)
    have c1 : Y3.cell? ⟨W1.heap.size, 2 + k * 4 + 1, none⟩ = some (stC G k (k * 4 + 1)) := j3.c (k * 4 + 1) (by omega)
    have f1 : Y3.frozen? ⟨W1.heap.size, 2 + k * 4 + 1, none⟩ = false := j3.f _ (by omega)
    have cd1 : Y3.drew.cell? ⟨W1.heap.size, 2 + k * 4 + 1, none⟩ = some (stC G k (k * 4 + 1)) := j3.c (k * 4 + 1) (by omega)
    have fd1 : Y3.drew.frozen? ⟨W1.heap.size, 2 + k * 4 + 1, none⟩ = false := j3.f _ (by omega)
    have c2 : Y3.cell? ⟨W1.heap.size, 2 + k * 4 + 2, none⟩ = some (stC G k (k * 4 + 2)) := j3.c (k * 4 + 2) (by omega)
    have f2 : Y3.frozen? ⟨W1.heap.size, 2 + k * 4 + 2, none⟩ = false := j3.f _ (by omega)
    have cd2 : Y3.drew.cell? ⟨W1.heap.size, 2 + k * 4 + 2, none⟩ = some (stC G k (k * 4 + 2)) := j3.c (k * 4 + 2) (by omega)
    have fd2 : Y3.drew.frozen? ⟨W1.heap.size, 2 + k * 4 + 2, none⟩ = false := j3.f _ (by omega)
    have c3 : Y3.cell? ⟨W1.heap.size, 2 + k * 4 + 3, none⟩ = some (stC G k (k * 4 + 3)) := j3.c (k * 4 + 3) (by omega)
    have f3 : Y3.frozen? ⟨W1.heap.size, 2 + k * 4 + 3, none⟩ = false := j3.f _ (by omega)
    have cd3 : Y3.drew.cell? ⟨W1.heap.size, 2 + k * 4 + 3, none⟩ = some (stC G k (k * 4 + 3)) := j3.c (k * 4 + 3) (by omega)
    have fd3 : Y3.drew.frozen? ⟨W1.heap.size, 2 + k * 4 + 3, none⟩ = false := j3.f _ (by omega)
    have PP : Hid (KeepsFrom V0.heap.size Y3 ((((Y3.drew.setCell ⟨W1.heap.size, 2 + k * 4, none⟩ (.int .i64 st)).setCell ⟨W1.heap.size, 2 + k * 4 + 1, none⟩ (.int .i64 op)).setCell ⟨W1.heap.size, 2 + k * 4 + 2, none⟩ (.int .i64 vw)).setCell ⟨W1.heap.size, 2 + k * 4 + 3, none⟩ (.bool mm)) ∧ opI V0 W1.heap.size d G (k + 1) ((((Y3.drew.setCell ⟨W1.heap.size, 2 + k * 4, none⟩ (.int .i64 st)).setCell ⟨W1.heap.size, 2 + k * 4 + 1, none⟩ (.int .i64 op)).setCell ⟨W1.heap.size, 2 + k * 4 + 2, none⟩ (.int .i64 vw)).setCell ⟨W1.heap.size, 2 + k * 4 + 3, none⟩ (.bool mm))) :=
      ⟨((KeepsOthers.drew Y3).trans (keeps_cells W1.heap.size (ss st op vw mm) (2 + k * 4) _)).from _, (((o3.drew.trans (Off.set _ _ _ (by simp))).trans (Off.set _ _ _ (by simp))).trans (Off.set _ _ _ (by simp))).trans (Off.set _ _ _ (by simp)), j3d.put hk hs⟩
    clear j3d
    clear S1 C1 y1 k1 S2 C2 y2 k2 hB3 hI hlo o3 j3 S3 J0 P0 M0
    have mx : Tryd.prog.follows .mixedOrders = true := by kernel_rfl
    gi_wp2
    gi_region_with_o fail
    all_goals exact PP.out
  · intro D1 X1 hD1 hI1 hd1
    have c1 := (hI1.1.cell (p := ⟨W1.heap.size + 1, 0, none⟩) (by show W1.heap.size + 1 < V0.heap.size; omega) (by simp)).trans P0
    have z1 : W.heap.size ≤ W1.heap.size := by omega
    have E1 : Hid (Below W.heap.size W X1) := BW.trans (hI1.1.below (fun b q => by simp at q; omega) BW.size)
    have J1 : Hid (JAt X1 W1.heap.size d (stC G 16) ∧ V0.heap.size ≤ X1.heap.size ∧ V0.heap.size ≤ D1 ∧ W1.heap.size < V0.heap.size) := ⟨hI1.2, hI1.1.size, hD1, gj⟩
    clear hI1 J0 P0 M0 hM BW
    gi_wp2
    refine And.intro (by simp) (Or.inl ⟨_, _, rfl, run_takeDeferred hd1, ?_⟩)
    refine ⟨.tuple #[.pointer (some ⟨W1.heap.size, 0, none⟩), .int .i64 0], by simp [results, Tryd.results7, go_sem], ?_⟩
    have U : But D1 X1 (X1.putObj D1 (.deferred none)) := But.putObj _ _ _
    exact ⟨W1.heap.size, rfl, z1, J1.out.1.off (Off.but (bs := [D1]) U (by simp)) (by simp; have := J1.out; omega), E1.out.trans (U.below (by have := J1.out; omega) (by have := E1.out.size; omega))⟩
end Go.Proofs.YtijpoipcadhchaaDoor
namespace Go.Proofs.YtijpoipcadhchaaDoor
open Go.RowKit Go.Maps
/-- A pointer that is nil, or is to a zero Disk. -/
def NoD (W : World) (p : Option Addr) : Prop := p = none ∨ ∃ z, p = some ⟨z, 0, none⟩ ∧ W.cell? ⟨z, 0, none⟩ = some (.pointer none) ∧ z < W.heap.size
theorem NoD.below {W W' : World} {p : Option Addr} (h : NoD W p) (hB : Below W.heap.size W W') : NoD W' p := by
  rcases h with rfl | ⟨z, rfl, c, l⟩
  · exact .inl rfl
  · exact .inr ⟨z, rfl, (hB.cell (p := ⟨z, 0, none⟩) l).trans c, Nat.lt_of_lt_of_le l hB.size⟩
theorem made_none (W : World) (p : Option Addr) (h : NoD W p) : Calls Tryd.prog 40 #[.pointer p] W fun e w' => e = .returned (.bool false) ∧ w' = W := by
  rcases h with rfl | ⟨z, rfl, c, _⟩
  · exact made_nil W
  · exact made_no W z c
theorem dready_no (W : World) (p : Option Addr) (h : NoD W p) : Calls Tryd.prog 51 #[.pointer p] W fun e w' => e = .returned (.int .i64 1) ∧ w' = W := by
  have MD : Hid (Calls Tryd.prog 40 #[.pointer p] W fun e w' => e = .returned (.bool false) ∧ w' = W) := made_none W p h
  clear h
  go_enter Tryd.func51, Tryd.ntmps51
  go_wp2_with (go_at_call 40; refine MD.out.mono ?_; rintro e w1 ⟨rfl, rfl⟩)
  go_ret
  exact ⟨rfl, rfl⟩
theorem dup_no (W : World) (p : Option Addr) (h : NoD W p) : Calls Tryd.prog 41 #[.pointer p] W fun e w' => e = .returned (.bool false) ∧ w' = W := by
  have MD : Hid (Calls Tryd.prog 40 #[.pointer p] W fun e w' => e = .returned (.bool false) ∧ w' = W) := made_none W p h
  clear h
  go_enter Tryd.func41, Tryd.ntmps41
  go_wp2_with (go_at_call 40; refine MD.out.mono ?_; rintro e w1 ⟨rfl, rfl⟩)
  go_ret
  exact ⟨rfl, rfl⟩
theorem dread_no (W : World) (p : Option Addr) (x n : Int) (h : NoD W p) : Calls Tryd.prog 42 #[.pointer p, .int .i64 x, .int .i64 n] W fun e w' => e = .returned (.tuple #[.slice none 0 0, .int .i64 1]) ∧ w' = W := by
  have MD : Hid (Calls Tryd.prog 51 #[.pointer p] W fun e w' => e = .returned (.int .i64 1) ∧ w' = W) := dready_no W p h
  clear h
  go_enter Tryd.func42, Tryd.ntmps42
  go_wp2_with (go_at_call 51; refine MD.out.mono ?_; rintro e w1 ⟨rfl, rfl⟩)
  exact bodyPost_ret (by simp [results, Tryd.results42, go_sem]) rfl ⟨rfl, rfl⟩
theorem dwrite_no (W : World) (p a : Option Addr) (x : Int) (n C : Nat) (h : NoD W p) : Calls Tryd.prog 50 #[.pointer p, .int .i64 x, .slice a n C] W fun e w' => e = .returned (.int .i64 1) ∧ Below W.heap.size W w' := by
  obtain ⟨W1, hW1⟩ : ∃ W1, ((W.alloc (.cells #[.pointer p] 32)).alloc (.cells #[.int .i64 x] 3)).alloc (.cells #[.slice a n C] 27) = W1 := ⟨_, rfl⟩
  have B0 : Below W.heap.size W (((W.alloc (.cells #[.pointer p] 32)).alloc (.cells #[.int .i64 x] 3)).alloc (.cells #[.slice a n C] 27)) := (((Below.refl _ _).alloc (Nat.le_refl _) _).alloc (by simp) _).alloc (by simp; omega) _
  have MD : Hid (Calls Tryd.prog 51 #[.pointer p] (((W.alloc (.cells #[.pointer p] 32)).alloc (.cells #[.int .i64 x] 3)).alloc (.cells #[.slice a n C] 27)) fun e w' => e = .returned (.int .i64 1) ∧ w' = ((W.alloc (.cells #[.pointer p] 32)).alloc (.cells #[.int .i64 x] 3)).alloc (.cells #[.slice a n C] 27)) := dready_no _ p (h.below B0)
  have BB : Hid (Below W.heap.size W (((W.alloc (.cells #[.pointer p] 32)).alloc (.cells #[.int .i64 x] 3)).alloc (.cells #[.slice a n C] 27))) := B0
  clear h B0 hW1 W1
  go_enter Tryd.func50, Tryd.ntmps50
  go_wp2_with (go_at_call 51; refine MD.out.mono ?_; rintro e w1 ⟨rfl, rfl⟩)
  go_ret
  exact ⟨rfl, BB.out⟩
theorem dflush_no (W : World) (p : Option Addr) (h : NoD W p) : Calls Tryd.prog 31 #[.pointer p] W fun e w' => e = .returned (.int .i64 1) ∧ Below W.heap.size W w' := by
  have B0 : Below W.heap.size W (W.alloc (.cells #[.pointer p] 32)) := (Below.refl _ _).alloc (Nat.le_refl _) _
  have MD : Hid (Calls Tryd.prog 51 #[.pointer p] (W.alloc (.cells #[.pointer p] 32)) fun e w' => e = .returned (.int .i64 1) ∧ w' = W.alloc (.cells #[.pointer p] 32)) := dready_no _ p (h.below B0)
  have BB : Hid (Below W.heap.size W (W.alloc (.cells #[.pointer p] 32))) := B0
  clear h B0
  go_enter Tryd.func31, Tryd.ntmps31
  go_wp2_with (go_at_call 51; refine MD.out.mono ?_; rintro e w1 ⟨rfl, rfl⟩)
  go_ret
  exact ⟨rfl, BB.out⟩
end Go.Proofs.YtijpoipcadhchaaDoor
namespace Go.Proofs.YtijpoipcadhchaaDoor
open Go.RowKit Go.Maps
/-- The bytes of all headers of an empty ring. -/
def hdsF (j : Nat) : Int := unwF ((j / 256 : Nat) : Int) (j % 256)
theorem hdsF_byte (j : Nat) : 0 ≤ hdsF j ∧ hdsF j < 256 := unwF_byte _ _ (Nat.mod_lt _ (by omega))
def fmRel (w : World) (v i : Value) (wr : World) : Prop := ∃ k : Nat, k ≤ 16 ∧ i = .int .i64 (k : Int) ∧ (∃ q cap, v = .slice q (256 * k) cap) ∧ Own wr w.heap.size v (256 * k) hdsF ∧ Below w.heap.size w wr
/-- One header more. -/
theorem fm_app (w W1 : World) (k g : Nat) (v : Value) (hk : k < 16) (ho : Own W1 w.heap.size v (256 * k) hdsF) (hR : IRow W1 g .u8 256 (unwF k)) (hB : Below w.heap.size w W1) :
    ∃ v' W', (Builtin.append_ #[27, 27] 27 #[v, .slice (some ⟨g, 0, none⟩) 256 256]).run Tryd.prog W1 = .ok v' W' ∧ fmRel w v' (.int .i64 ((k : Int) + 1)) W' := by
  obtain ⟨v', W', h1, h2, h3⟩ := app_arg 27 W1 w.heap.size (256 * k) 256 256 v _ hdsF (unwF k) ho (Arg.of (hR.lies (unwF_byte k))) (by omega) hB.size
  have h2' : Own W' w.heap.size v' (256 * (k + 1)) hdsF := by
    have e : Own W' w.heap.size v' (256 * (k + 1)) (cat hdsF (256 * k) (unwF k)) := h2
    refine e.congr fun q hq => ?_
    unfold cat
    by_cases c : q < 256 * k
    · rw [if_pos c]
    · rw [if_neg c]
      unfold hdsF
      rw [show q / 256 = k by omega, show q % 256 = q - 256 * k by omega]
  have sh : ∃ q cap, v' = .slice q (256 * (k + 1)) cap := by
    obtain ⟨g2, cap2, e, _⟩ := h2'.form (by omega) (fun j _ => hdsF_byte j)
    exact ⟨_, cap2, e⟩
  exact ⟨v', W', h1, k + 1, hk, by go_num, sh, h2', hB.trans h3⟩
/-- The disk behind k of Format's deeds. -/
noncomputable def fmD (D : Dsk) : Nat → Dsk
  | 0 => D
  | 1 => (D.wrote 24 (fun _ => 0) 80).more
  | 2 => (((D.wrote 24 (fun _ => 0) 80).more).wrote 8 hdsF 16).more
  | _ => ((((D.wrote 24 (fun _ => 0) 80).more).wrote 8 hdsF 16).more).safe.more
def fmV (px hx d : Nat) : Nat → DeedV
  | 0 => .prep px (px + 1) (px + 2)
  | 1 => .head hx (hx + 1) (hx + 2)
  | _ => .flush (some ⟨d, 0, none⟩)
/-- A block that is none of a disk's. -/
def Out3 (V : World) (d s m b : Nat) : Prop := b < V.heap.size ∧ b ≠ d ∧ b ≠ s ∧ b ≠ m
theorem Out3.mem {V : World} {d s m b : Nat} (h : Out3 V d s m b) : b ∉ [d, s, m] := by
  have := h.2
  simp
  omega
theorem Out3.step {V V' : World} {d s m m' b : Nat} (h : Out3 V d s m b) (hO : Off [d, s, m] V V') (hm : m' ∈ [d, s, m] ∨ V.heap.size ≤ m') : Out3 V' d s m' b := by
  refine ⟨Nat.lt_of_lt_of_le h.1 hO.size, h.2.1, h.2.2.1, ?_⟩
  have := h.2
  have := h.1
  rcases hm with q | q
  · simp at q
    omega
  · omega
structure fmS (w0 : World) (d s : Nat) (D : Dsk) (bz bh Ch px hx B : Nat) (k m : Nat) (V : World) : Prop where
  st : St w0 V d s m (fmD D k)
  hp : HBox V px (px + 1) (px + 2) (some ⟨d, 0, none⟩) 0 (.slice (some ⟨bz, 0, none⟩) 20480 20480)
  hh : HBox V hx (hx + 1) (hx + 2) (some ⟨d, 0, none⟩) 0 (.slice (some ⟨bh, 0, none⟩) 4096 Ch)
  lz : Lies V bz 0 (80 * 256) (fun _ => 0)
  lh : Lies V bh 0 (16 * 256) hdsF
  c : ∀ j, j < 3 → V.cell? ⟨B, j, none⟩ = some (fmV px hx d j).val
  oz : Out3 V d s m bz
  oh : Out3 V d s m bh
  ob : Out3 V d s m B
  op : Out3 V d s m px ∧ Out3 V d s m (px + 1) ∧ Out3 V d s m (px + 2)
  ox : Out3 V d s m hx ∧ Out3 V d s m (hx + 1) ∧ Out3 V d s m (hx + 2)
theorem fmS.step {w0 : World} {d s : Nat} {D : Dsk} {bz bh Ch px hx B k k' m m' : Nat} {V V' : World} (h : fmS w0 d s D bz bh Ch px hx B k m V) (hs : St w0 V' d s m' (fmD D k')) (hO : Off [d, s, m] V V') (hm : m' ∈ [d, s, m] ∨ V.heap.size ≤ m') : fmS w0 d s D bz bh Ch px hx B k' m' V' where
  st := hs
  hp := h.hp.off hO h.op.1.mem h.op.2.1.mem h.op.2.2.mem
  hh := h.hh.off hO h.ox.1.mem h.ox.2.1.mem h.ox.2.2.mem
  lz := ⟨fun j hj => (hO.cell (p := ⟨bz, 0 + j, none⟩) h.oz.1 h.oz.mem).trans (h.lz.1 j hj), h.lz.2.1, Nat.lt_of_lt_of_le h.oz.1 hO.size⟩
  lh := ⟨fun j hj => (hO.cell (p := ⟨bh, 0 + j, none⟩) h.oh.1 h.oh.mem).trans (h.lh.1 j hj), h.lh.2.1, Nat.lt_of_lt_of_le h.oh.1 hO.size⟩
  c := fun j hj => (hO.cell (p := ⟨B, j, none⟩) h.ob.1 h.ob.mem).trans (h.c j hj)
  oz := h.oz.step hO hm
  oh := h.oh.step hO hm
  ob := h.ob.step hO hm
  op := ⟨h.op.1.step hO hm, h.op.2.1.step hO hm, h.op.2.2.step hO hm⟩
  ox := ⟨h.ox.1.step hO hm, h.ox.2.1.step hO hm, h.ox.2.2.step hO hm⟩
def fmI (w0 : World) (d s : Nat) (D : Dsk) (bz bh Ch px hx B k : Nat) (V : World) : Prop := ∃ m, fmS w0 d s D bz bh Ch px hx B k m V
/-- What Format leaves. -/
def FmtPost (w0 : World) (d s : Nat) (D : Dsk) (e : Ending) (w' : World) : Prop := e = .returned (.int .i64 0) ∧ ∃ m', St w0 w' d s m' (fmD D 3)
theorem fm_few {D : Dsk} {n : Int} (h : D.few n) : ((D.wrote 24 (fun _ => 0) 80).more).few (n + 1) ∧ ((((D.wrote 24 (fun _ => 0) 80).more).wrote 8 hdsF 16).more).few (n + 1 + 1) := ⟨h.wrote 24 _ 80, (h.wrote 24 _ 80).wrote 8 _ 16⟩
/-- Format's deeds. -/
theorem fm_do (w0 : World) (d s : Nat) (D : Dsk) (bz bh Ch px hx B C : Nat) (W : World) (hf : D.few 1000) (hN : 104 ≤ D.N) (hC : 4096 ≤ Ch) (h0 : fmI w0 d s D bz bh Ch px hx B 0 W) : Calls Tryd.prog 39 #[.slice (some ⟨B, 0, none⟩) 3 C] W (FmtPost w0 d s D) := by
  refine do_gen B 3 3 C (fmV px hx d) (fmI w0 d s D bz bh Ch px hx B) _ W (Nat.le_refl _) (by omega) h0 (fun k hk V hI => ?_) (fun k hk V hI => ?_) (fun q => absurd q (by omega)) (fun _ V hI => ?_)
  · obtain ⟨m, h⟩ := hI
    exact h.c k hk
  · obtain ⟨m, h⟩ := hI
    match k, hk with
    | 0, _ =>
      refine prep1_any V px (px + 1) (px + 2) _ 0 24 0 _ 20480 20480 _ h.hp (by omega) (by omega) (by omega) ?_
      refine (st_write w0 V d s m 24 bz 0 80 20480 20480 24 D (fun _ => 0) h.st (hf.free (by decide)) rfl rfl h.lz (by omega) (by omega) (by omega) (by omega) ⟨h.oz.2.2.1, h.oz.2.2.2⟩).mono ?_
      rintro e w' ⟨rfl, m', h1, h2, h3⟩
      exact ⟨rfl, m', h.step h1 h3 h2⟩
    | 1, _ =>
      refine head1_any V hx (hx + 1) (hx + 2) _ 0 8 0 _ 4096 Ch _ h.hh (by omega) (by omega) (by omega) ?_
      refine (st_write w0 V d s m 8 bh 0 16 4096 Ch 8 _ hdsF h.st ((fm_few hf).1.free (by decide)) rfl rfl h.lh (by omega) (by omega) hC (by show 8 + 16 ≤ (D.wrote 24 (fun _ => 0) 80).N; rw [D.wrote_N]; omega) ⟨h.oh.2.2.1, h.oh.2.2.2⟩).mono ?_
      rintro e w' ⟨rfl, m', h1, h2, h3⟩
      exact ⟨rfl, m', h.step h1 h3 h2⟩
    | 2, _ =>
      refine (st_flush w0 V d s m _ h.st ((fm_few hf).2.free (by decide))).mono ?_
      rintro e w' ⟨rfl, m', h1, h2, h3⟩
      refine ⟨rfl, m', h.step h1 (h3.mono (fun b q => by simp at q ⊢; omega)) (h2.imp (fun q => by simp at q ⊢; omega) id)⟩
  · obtain ⟨m, h⟩ := hI
    exact ⟨rfl, m, h.st⟩
theorem Out3.new {V W : World} {d s m b : Nat} (hd : d < W.heap.size) (hs : s < W.heap.size) (hm : m < W.heap.size) (hb : W.heap.size ≤ b) (hV : b < V.heap.size) : Out3 V d s m b := ⟨hV, by omega, by omega, by omega⟩
theorem info_deed : (Tryd.prog.info? 80).map (fun i => (i.zero, i.size, i.bytes)) = some (some .nilFunc, 1, 8) := by kernel_rfl
theorem wpList_bs {ops : Array Oper} {rest : List Oper} {o : Oper} {a : Act} {w : World} {Q : Exit → Act → World → Prop} (hg : o.guard = none) (t e : TypeId) (len : Nat) (parts : Array (Nat × Operand)) (ho : o.op = .buildSlice t len parts) (sz by' : Nat) (z : Value) (cells : Array Value) (vs : List (Nat × Value))
    (hu : Tryd.prog.underlying t = some (.slice e)) (hinfo : (Tryd.prog.info? e).map (fun i => (i.zero, i.size, i.bytes)) = some (some z, sz, by')) (hsmall : ¬ len * sz > 2 ^ 24) (hpos : ¬ len * sz = 0)
    (hv : (parts.map fun (i, x) => (i, a.eval x)).toList = vs) (hf : Instr.fill (fun i => some (i * sz, sz)) ((Array.range (len * sz)).map (z.cells[· % z.cells.size]!)) vs = some cells)
    (h : wpList Tryd.prog ops Q rest (a.put o.dst (.slice (some ⟨w.heap.size, 0, none⟩) len len)) (w.alloc (.cells cells e))) : wpList Tryd.prog ops Q (o :: rest) a w := by
  obtain ⟨ie, hie, hz0, hz1, _⟩ := info_parts hinfo
  exact wpList_buildSlice hg t e len parts ho cells ie z hu hie hz0 (by rw [hz1]; exact hsmall) (by rw [hz1]; exact hpos) (by rw [hv, hz1]; exact hf) h
/-- Ahead of Format's deeds. -/
theorem fm_start {w0 W wr W1 W2 : World} {d s m bh cap : Nat} {D : Dsk} (hS : St w0 W d s m D) (hB : Below W.heap.size W wr) (hl : Lies wr bh 0 4096 hdsF) (hbh : W.heap.size ≤ bh)
    (h1 : HBox W1 (wr.heap.size + 1) (wr.heap.size + 1 + 1) (wr.heap.size + 1 + 2) (some ⟨d, 0, none⟩) 0 (.slice (some ⟨wr.heap.size, 0, none⟩) 20480 20480)) (B1 : Below (wr.heap.size + 1) (wr.alloc (.cells (zeros 20480) 5)) W1)
    (h2 : HBox W2 W1.heap.size (W1.heap.size + 1) (W1.heap.size + 2) (some ⟨d, 0, none⟩) 0 (.slice (some ⟨bh, 0, none⟩) 4096 cap)) (B2 : Below W1.heap.size W1 W2) (t : TypeId) :
    fmI w0 d s D wr.heap.size bh cap (wr.heap.size + 1) W1.heap.size W2.heap.size 0 (W2.alloc (.cells #[(fmV (wr.heap.size + 1) W1.heap.size d 0).val, (fmV (wr.heap.size + 1) W1.heap.size d 1).val, (fmV (wr.heap.size + 1) W1.heap.size d 2).val] t)) := by
  have BA : Below wr.heap.size wr (wr.alloc (.cells (zeros 20480) 5)) := (Below.refl _ _).alloc (Nat.le_refl _) _
  have zA : (wr.alloc (.cells (zeros 20480) 5)).heap.size = wr.heap.size + 1 := World.size_alloc _ _
  have B1' : Below (wr.alloc (.cells (zeros 20480) 5)).heap.size (wr.alloc (.cells (zeros 20480) 5)) W1 := by rw [zA]; exact B1
  have B3 : Below W2.heap.size W2 (W2.alloc (.cells #[(fmV (wr.heap.size + 1) W1.heap.size d 0).val, (fmV (wr.heap.size + 1) W1.heap.size d 1).val, (fmV (wr.heap.size + 1) W1.heap.size d 2).val] t)) := (Below.refl _ _).alloc (Nat.le_refl _) _
  have z0 := hB.size
  have z1 := B1.size
  have z2 := B2.size
  have z3 := World.size_alloc W2 (.cells #[(fmV (wr.heap.size + 1) W1.heap.size d 0).val, (fmV (wr.heap.size + 1) W1.heap.size d 1).val, (fmV (wr.heap.size + 1) W1.heap.size d 2).val] t)
  have gd := hS.at'.dl
  have gs := hS.at'.sl
  have gm := hS.at'.ml
  have l1 := h1.lz
  have l2 := h2.lz
  have lb := hl.2.2
  have zr : Lies (wr.alloc (.cells (zeros 20480) 5)) wr.heap.size 0 (80 * 256) (fun _ => 0) := (IRow.made wr 20480 5).lies (fun j _ => by omega)
  refine ⟨m, ⟨((((hS.below hB).below BA).below B1').below B2).below B3, (h1.below B2).below B3, h2.below B3, ((zr.below B1').below B2).below B3, (((hl.below BA).below B1').below B2).below B3, fun j hj => ?_, Out3.new gd gs gm (by omega) (by omega), Out3.new gd gs gm hbh (by omega), Out3.new gd gs gm (by omega) (by omega), ⟨Out3.new gd gs gm (by omega) (by omega), Out3.new gd gs gm (by omega) (by omega), Out3.new gd gs gm (by omega) (by omega)⟩, ⟨Out3.new gd gs gm (by omega) (by omega), Out3.new gd gs gm (by omega) (by omega), Out3.new gd gs gm (by omega) (by omega)⟩⟩⟩
  rw [cell_of_row _ _ _ _ _ _ (heap_alloc_new _ _)]
  match j, hj with
  | 0, _ => rfl
  | 1, _ => rfl
  | 2, _ => rfl
set_option maxRecDepth 100000 in
set_option maxHeartbeats 1000000 in
/-- Format, of a disk that has the rings and no fuse. -/
theorem format_st (w0 W : World) (d s m : Nat) (D : Dsk) (h : St w0 W d s m D) (hf : D.few 1000) (hN : 104 ≤ D.N) (hT : Tab W) : Calls Tryd.prog 13 #[.pointer (some ⟨d, 0, none⟩)] W (FmtPost w0 d s D) := by
  have HS : Hid (St w0 W d s m D) := h
  have HD : Hid (D.few 1000 ∧ 104 ≤ D.N) := ⟨hf, hN⟩
  have HT : Hid (Tab W) := hT
  have hT0 : 0 < W.heap.size := hT.2
  have hmk : ∀ w, (Instr.makeSlice 27 (.int .i64 20480) (.int .i64 20480)).run Tryd.prog w = .ok (.slice (some ⟨w.heap.size, 0, none⟩) 20480 20480) (w.alloc (.cells (zeros 20480) 5)) := fun w => make_bytes 20480 (by omega) w
  have ST : Hid (fmRel W (.slice none 0 0) (.int .i64 0) W) := ⟨0, by omega, rfl, ⟨none, 0, rfl⟩, Own.nil _ _ _, Below.refl _ _⟩
  clear h hf hN hT
  go_enter Tryd.func13, Tryd.ntmps13
  go_wp2_with fail
  go_loopw [3, 5] (fun v i wr => fmRel W v i wr) (fun _ i _ => 16 - (RowKit.intOf i).toNat)
  case atStart => exact ST.out
  case round =>
    obtain ⟨k, hk, rfl, ⟨q, cap, rfl⟩, ho, hB⟩ := hrel
    clear ST
    have i1 : (0 : Int) ≤ (k : Int) := by omega
    by_cases hlt : k < 16
    · have i0 : (k : Int) < 16 := by omega
      have UN : Hid (Calls Tryd.prog 36 #[.int .i64 (k : Int)] wr fun e w' => ∃ g, e = .returned (.slice (some ⟨g, 0, none⟩) 256 256) ∧ wr.heap.size ≤ g ∧ IRow w' g .u8 256 (unwF k) ∧ Below wr.heap.size wr w') := junw_any k hlt wr (HT.out.below hB hT0)
      have HO : Hid (Own wr W.heap.size (.slice q (256 * k) cap) (256 * k) hdsF ∧ Below W.heap.size W wr) := ⟨ho, hB⟩
      clear ho hB
      go_wp2_with (first
        | (go_at_call 36; refine UN.out.mono ?_; rintro e W1 ⟨g, rfl, hg, hR, B1⟩
           obtain ⟨v', W', hr, hrel'⟩ := fm_app W W1 k g _ hlt (HO.out.1.below B1) hR (HO.out.2.trans (B1.mono HO.out.2.size))
           have H2 : Hid (fmRel W v' (.int .i64 ((k : Int) + 1)) W') := hrel'
           clear hrel' hg hR B1)
        | (at_builtin; refine wpList_append_go rfl (.tmp 8) (.tmp 10) 27 27 rfl _ _ rfl rfl hr ?_))
      exact ⟨H2.out, by simp [RowKit.intOf]; omega⟩
    · obtain rfl : k = 16 := by omega
      obtain ⟨bh, Ch, hv, hbh, hCh, hl⟩ := ho.form (by omega) (fun j _ => hdsF_byte j)
      injection hv with hv1 _ hv2
      subst hv1 hv2
      have HL : Hid (Lies wr bh 0 4096 hdsF ∧ W.heap.size ≤ bh ∧ 4096 ≤ cap ∧ Below W.heap.size W wr) := ⟨hl, hbh, hCh, hB⟩
      have DO : Hid (∀ bz px hx B V, fmI w0 d s D bz bh cap px hx B 0 V → Calls Tryd.prog 39 #[.slice (some ⟨B, 0, none⟩) 3 3] V (FmtPost w0 d s D)) := fun bz px hx B V hI => fm_do w0 d s D bz bh cap px hx B 3 V HD.out.1 HD.out.2 hCh hI
      clear hl ho hB hbh hCh
      go_wp2_with (first
        | (go_at_call 30; refine (wprep_any _ _ 0 _ 20480 20480).mono ?_; rintro e W1 ⟨rfl, hp1, B1⟩
           have H1 : Hid (HBox W1 (wr.heap.size + 1) (wr.heap.size + 1 + 1) (wr.heap.size + 1 + 2) (some ⟨d, 0, none⟩) 0 (.slice (some ⟨wr.heap.size, 0, none⟩) 20480 20480) ∧ Below (wr.heap.size + 1) (wr.alloc (.cells (zeros 20480) 5)) W1) := by
             rw [World.size_alloc] at hp1 B1
             exact ⟨hp1, B1⟩
           clear hp1 B1)
        | (go_at_call 32; refine (whead_any _ _ 0 _ 4096 cap).mono ?_; rintro e W2 ⟨rfl, hp2, B2⟩
           have FI : Hid (∀ t, fmI w0 d s D wr.heap.size bh cap (wr.heap.size + 1) W1.heap.size W2.heap.size 0 (W2.alloc (.cells #[(fmV (wr.heap.size + 1) W1.heap.size d 0).val, (fmV (wr.heap.size + 1) W1.heap.size d 1).val, (fmV (wr.heap.size + 1) W1.heap.size d 2).val] t))) := fm_start HS.out HL.out.2.2.2 HL.out.1 HL.out.2.1 H1.out.1 H1.out.2 hp2 B2
           clear hp2 B2 H1)
        | (refine wpList_bs rfl 82 80 3 _ rfl 1 8 .nilFunc #[(fmV (wr.heap.size + 1) W1.heap.size d 0).val, (fmV (wr.heap.size + 1) W1.heap.size d 1).val, (fmV (wr.heap.size + 1) W1.heap.size d 2).val] [(0, (fmV (wr.heap.size + 1) W1.heap.size d 0).val), (1, (fmV (wr.heap.size + 1) W1.heap.size d 1).val), (2, (fmV (wr.heap.size + 1) W1.heap.size d 2).val)] Tryd.underlying82 info_deed (by decide) (by decide) (by kernel_rfl) (by kernel_rfl) ?_)
        | (go_at_call 39; refine (DO.out wr.heap.size (wr.heap.size + 1) W1.heap.size W2.heap.size _ (FI.out _)).mono ?_; rintro e W3 ⟨rfl, h3⟩
           have H3 : Hid (∃ m', St w0 W3 d s m' (fmD D 3)) := h3
           clear h3))
      go_ret
      exact ⟨rfl, H3.out⟩
end Go.Proofs.YtijpoipcadhchaaDoor
namespace Go.Proofs.YtijpoipcadhchaaDoor
open Go.RowKit Go.Maps
theorem eqij_ptr (d : Nat) (a : Addr) (w : World) : (Op.equalIn (d + 1) 31 (.pointer (some a)) (.pointer (some a))).run Tryd.prog w = .ok true w := by
  simp [Op.equalIn, run_underlying Tryd.underlying31, run_sameAddr_same]
theorem eqlj_ptr (a : Addr) (w : World) : (binOp .eql 31 (.pointer (some a)) (.pointer (some a))).run Tryd.prog w = .ok (.bool true) w := by
  have h : (Op.equal 31 (.pointer (some a)) (.pointer (some a))).run Tryd.prog w = .ok true w := eqij_ptr 9999 a w
  simp only [binOp]
  simp [h]
theorem eqij_nil (d : Nat) (a : Addr) (w : World) : (Op.equalIn (d + 1) 31 (.pointer none) (.pointer (some a))).run Tryd.prog w = .ok false w := by
  simp [Op.equalIn, run_underlying Tryd.underlying31]
theorem eqlj_nil (a : Addr) (w : World) : (binOp .eql 31 (.pointer none) (.pointer (some a))).run Tryd.prog w = .ok (.bool false) w := by
  have h : (Op.equal 31 (.pointer none) (.pointer (some a))).run Tryd.prog w = .ok false w := eqij_nil 9999 a w
  simp only [binOp]
  simp [h]
/-- A pointer that is nil, or is to a zero Journal. -/
def NoJ (W : World) (p : Option Addr) : Prop := p = none ∨ ∃ z, p = some ⟨z, 0, none⟩ ∧ W.cell? ⟨z, 0, none⟩ = some (.pointer none) ∧ z < W.heap.size
theorem NoJ.below {W W' : World} {p : Option Addr} (h : NoJ W p) (hB : Below W.heap.size W W') : NoJ W' p := by
  rcases h with rfl | ⟨z, rfl, c, l⟩
  · exact .inl rfl
  · exact .inr ⟨z, rfl, (hB.cell (p := ⟨z, 0, none⟩) l).trans c, Nat.lt_of_lt_of_le l hB.size⟩
set_option maxRecDepth 100000 in
theorem jmade_no (W : World) (p : Option Addr) (h : NoJ W p) : Calls Tryd.prog 27 #[.pointer p] W fun e w' => e = .returned (.bool false) ∧ w' = W := by
  rcases h with rfl | ⟨z, rfl, c, _⟩
  · go_enter Tryd.func27, Tryd.ntmps27
    go_wp2_with fail
    go_ret
    exact ⟨rfl, rfl⟩
  · have hp := eqlj_nil ⟨z, 0, none⟩
    go_enter Tryd.func27, Tryd.ntmps27
    go_wp2_with fail
    go_ret
    exact ⟨rfl, rfl⟩
theorem jready_no (W : World) (p : Option Addr) (h : NoJ W p) : Calls Tryd.prog 20 #[.pointer p] W fun e w' => e = .returned (.int .i64 1) ∧ w' = W := by
  have MD : Hid (Calls Tryd.prog 27 #[.pointer p] W fun e w' => e = .returned (.bool false) ∧ w' = W) := jmade_no W p h
  clear h
  go_enter Tryd.func20, Tryd.ntmps20
  go_wp2_with (go_at_call 27; refine MD.out.mono ?_; rintro e w1 ⟨rfl, rfl⟩)
  go_ret
  exact ⟨rfl, rfl⟩
set_option maxRecDepth 100000 in
theorem jmend_no (W : World) (p : Option Addr) (h : NoJ W p) : Calls Tryd.prog 10 #[.pointer p] W fun e w' => e = .returned (.int .i64 1) ∧ Below W.heap.size W w' := by
  have MD : Hid (∀ u, Below W.heap.size W u → Calls Tryd.prog 20 #[.pointer p] u fun e w' => e = .returned (.int .i64 1) ∧ w' = u) := fun u hB => jready_no u p (h.below hB)
  clear h
  go_enter Tryd.func10, Tryd.ntmps10
  go_wp2_with (go_at_call 20; refine (MD.out _ ((Below.refl _ _).alloc (Nat.le_refl _) _)).mono ?_; rintro e w1 ⟨rfl, hw1⟩; rw [hw1]; clear hw1 w1)
  go_ret
  exact ⟨rfl, (Below.refl _ _).alloc (Nat.le_refl _) _⟩
set_option maxRecDepth 100000 in
theorem jcut_no (W : World) (p : Option Addr) (op : Int) (h : NoJ W p) : Calls Tryd.prog 11 #[.pointer p, .int .i64 op] W fun e w' => e = .returned (.int .i64 1) ∧ Below W.heap.size W w' := by
  have MD : Hid (∀ u, Below W.heap.size W u → Calls Tryd.prog 20 #[.pointer p] u fun e w' => e = .returned (.int .i64 1) ∧ w' = u) := fun u hB => jready_no u p (h.below hB)
  clear h
  go_enter Tryd.func11, Tryd.ntmps11
  go_wp2_with (go_at_call 20; refine (MD.out _ (((Below.refl _ _).alloc (Nat.le_refl _) _).alloc (by simp) _)).mono ?_; rintro e w1 ⟨rfl, hw1⟩; rw [hw1]; clear hw1 w1)
  go_ret
  exact ⟨rfl, ((Below.refl _ _).alloc (Nat.le_refl _) _).alloc (by simp) _⟩
theorem jslots_no (W : World) (p : Option Addr) (h : NoJ W p) : Calls Tryd.prog 12 #[.pointer p] W fun e w' => e = .returned (.slice none 0 0) ∧ w' = W := by
  have MD : Hid (Calls Tryd.prog 27 #[.pointer p] W fun e w' => e = .returned (.bool false) ∧ w' = W) := jmade_no W p h
  clear h
  go_enter Tryd.func12, Tryd.ntmps12
  go_wp2_with (go_at_call 27; refine MD.out.mono ?_; rintro e w1 ⟨rfl, rfl⟩)
  go_ret
  exact ⟨rfl, rfl⟩
set_option maxRecDepth 100000 in
theorem jput_no (W : World) (p : Option Addr) (hh : Nat → Int) (a : Option Addr) (n C : Nat) (h : NoJ W p) : Calls Tryd.prog 9 #[.pointer p, .agg (msg hh a n C).toArray] W fun e w' => e = .returned (.int .i64 1) ∧ Below W.heap.size W w' := by
  have MD : Hid (∀ u, Below W.heap.size W u → Calls Tryd.prog 27 #[.pointer p] u fun e w' => e = .returned (.bool false) ∧ w' = u) := fun u hB => jmade_no u p (h.below hB)
  clear h
  go_enter Tryd.func9, Tryd.ntmps9
  go_wp2_with (first
    | (refine wpList_box_rec rfl 29 (.tmp 1) rfl (msg hh a n C) rfl W.heap.size rfl ?_; intro W0 R0 B0 z0)
    | (go_at_call 27; refine (MD.out _ B0).mono ?_; rintro e w1 ⟨rfl, hw1⟩; subst hw1))
  go_ret
  exact ⟨rfl, B0⟩
set_option maxRecDepth 100000 in
theorem jget_no (W : World) (p : Option Addr) (op : Int) (h : NoJ W p) : Calls Tryd.prog 6 #[.pointer p, .int .i64 op] W fun e w' => e = .returned (.tuple #[.agg (msg (fun _ => 0) none 0 0).toArray, .int .i64 1]) ∧ Below W.heap.size W w' := by
  have MD : Hid (∀ u, Below W.heap.size W u → Calls Tryd.prog 20 #[.pointer p] u fun e w' => e = .returned (.int .i64 1) ∧ w' = u) := fun u hB => jready_no u p (h.below hB)
  clear h
  go_enter Tryd.func6, Tryd.ntmps6
  go_wp2_with (first
    | (refine wpList_alloc_rec rfl 29 rfl (msg (fun _ => 0) none 0 0) W.heap.size rfl zeroMsg ?_; intro W0 R0 B0 z0)
    | (go_at_call 20; refine (MD.out _ B0).mono ?_; rintro e w1 ⟨rfl, hw1⟩; subst hw1)
    | (refine wpList_build_to rfl 29 _ rfl (msg (fun _ => 0) none 0 0).toArray (by kernel_rfl) ?_)
    | (refine wpList_store_rec rfl 29 (.tmp 4) (.tmp 17) rfl W.heap.size 0 _ (msg (fun _ => 0) none 0 0) rfl rfl R0 rfl (by kernel_rfl) (msg_one _ _ _ _) ?_; intro W9 R9 B9))
  have hl := R9.run_load 29 _ Tryd.underlying29 rfl (by kernel_rfl)
  exact bodyPost_ret (v := .tuple #[.agg (msg (fun _ => 0) none 0 0).toArray, .int .i64 1]) (by simp [results, Tryd.results6, asAddr, hl]) rfl ⟨rfl, B0.trans (B9.below (Nat.le_refl _) B0.size)⟩
/-- Of no disk. -/
theorem jread_no (W : World) (p : Option Addr) (h : NoD W p) : Calls Tryd.prog 24 #[.pointer p] W fun e w' => e = .returned (.tuple #[.slice none 0 0, .slice none 0 0, .int .i64 1]) ∧ w' = W := by
  have RD : Hid (Calls Tryd.prog 42 #[.pointer p, .int .i64 8, .int .i64 96] W fun e w' => e = .returned (.tuple #[.slice none 0 0, .int .i64 1]) ∧ w' = W) := dread_no W p 8 96 h
  clear h
  go_enter Tryd.func24, Tryd.ntmps24
  go_wp2_with (go_at_call 42; refine RD.out.mono ?_; rintro e w1 ⟨rfl, rfl⟩)
  exact bodyPost_ret (v := .tuple #[.slice none 0 0, .slice none 0 0, .int .i64 1]) (by simp [results, Tryd.results24, go_sem]) rfl ⟨rfl, rfl⟩
theorem jopen_no (W : World) (p : Option Addr) (h : NoD W p) : Calls Tryd.prog 7 #[.pointer p] W fun e w' => e = .returned (.tuple #[.pointer none, .int .i64 1]) ∧ w' = W := by
  have RD : Hid (Calls Tryd.prog 24 #[.pointer p] W fun e w' => e = .returned (.tuple #[.slice none 0 0, .slice none 0 0, .int .i64 1]) ∧ w' = W) := jread_no W p h
  clear h
  go_enter Tryd.func7, Tryd.ntmps7
  go_wp2_with (go_at_call 24; refine RD.out.mono ?_; rintro e w1 ⟨rfl, rfl⟩)
  exact bodyPost_ret (v := .tuple #[.pointer none, .int .i64 1]) (by simp [results, Tryd.results7, go_sem]) rfl ⟨rfl, rfl⟩
/-- Format's deeds, of no disk: the first one fails. -/
theorem fm_do_no (W V : World) (p : Option Addr) (px B C : Nat) (v2 : DeedV) (hD : NoD V p) (hp : ∃ a, HBox V px (px + 1) (px + 2) p 0 (.slice a 20480 20480)) (hc : V.cell? ⟨B, 0, none⟩ = some (DeedV.prep px (px + 1) (px + 2)).val) (hc1 : ∃ v1 : DeedV, V.cell? ⟨B, 1, none⟩ = some v1.val) (hc2 : V.cell? ⟨B, 2, none⟩ = some v2.val) (hB : Below W.heap.size W V) :
    Calls Tryd.prog 39 #[.slice (some ⟨B, 0, none⟩) 3 C] V fun e w' => e = .returned (.int .i64 1) ∧ Below W.heap.size W w' := by
  obtain ⟨a, hp⟩ := hp
  obtain ⟨v1, hc1⟩ := hc1
  refine do_gen B 0 3 C (fun k => match k with | 0 => .prep px (px + 1) (px + 2) | 1 => v1 | _ => v2) (fun _ u => u = V) _ V (by omega) (by omega) rfl (fun k hk u hu => ?_) (fun k hk => absurd hk (by omega)) (fun _ u hu => ?_) (fun q => absurd q (by omega))
  · subst hu
    match k, hk with
    | 0, _ => exact hc
    | 1, _ => exact hc1
    | 2, _ => exact hc2
  · subst hu
    refine Calls.mono (prep1_any u px (px + 1) (px + 2) p 0 24 1 a 20480 20480 (fun w' => Below W.heap.size W w') hp (by omega) (by omega) (by omega) ((dwrite_no u p a 24 20480 20480 hD).mono ?_)) ?_
    · rintro e w' ⟨rfl, b⟩
      exact ⟨rfl, hB.trans (b.mono hB.size)⟩
    · rintro e w' ⟨rfl, b⟩
      exact ⟨1, by decide, rfl, rfl, b⟩
end Go.Proofs.YtijpoipcadhchaaDoor
