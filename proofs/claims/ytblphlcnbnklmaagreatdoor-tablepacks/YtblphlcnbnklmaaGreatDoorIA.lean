
/-
  Walks, not a claim by itself: a nil Disk and a zero Disk. By the verifier.
-/
import Derived.Test.YtblphlcnbnklmaaGreatDoorDBase
import Derived.LaidEql
import Derived.Carry
import Derived.Test.YtblphlcnbnklmaaGreatDoorDChunk
import Derived.Laws.Cover3
import Derived.Laws.MakeOwn
namespace Go.Proofs.YtblphlcnbnklmaaGreatDoor
open Go.RowKit Go.Maps
theorem keys_perm {W : World} {m n N : Nat} {D : DataW Value} {lo : Nat → Bool} {ob : Nat → Int} (h : W.ownsMap Tryz.prog 3 heldR m n D) (k : OldIs D N lo ob) : (looseL N lo).Perm (intKeys D) := by
  refine CollectedI.perm (left := fun _ => false) ⟨looseL_nodup N lo, fun x => ?_⟩ h keyed_int Tryz.underlying3 (fun _ => rfl)
  rw [looseL_mem]
  constructor
  · rintro ⟨i, rfl, hi, hl⟩
    exact ⟨(k.iff i hi).trans hl, rfl⟩
  · rintro ⟨hh, _⟩
    obtain ⟨i, rfl, hi⟩ := k.only x hh
    exact ⟨i, rfl, hi, (k.iff i hi).symm.trans hh⟩
theorem keys_size {W : World} {m n N : Nat} {D : DataW Value} {lo : Nat → Bool} {ob : Nat → Int} (h : W.ownsMap Tryz.prog 3 heldR m n D) (k : OldIs D N lo ob) : Maps.size D = (looseL N lo).length := by
  rw [(keys_perm h k).length_eq]
  obtain ⟨es, rfl⟩ := k.map
  simp [Maps.size, intKeys]
theorem MapOk.tight {W : World} {m N : Nat} {lo : Nat → Bool} {ob : Nat → Int} (h : MapOk W m N lo ob) : ∃ D, W.ownsMap Tryz.prog 3 heldR m N D ∧ OldIs D N lo ob := by
  obtain ⟨D, n, h, k⟩ := h
  have e := keys_size h k
  have l := looseL_len N lo
  obtain ⟨es, clock, hb, F, hs, hD⟩ := h
  have hz : es.size = Maps.size D := by rw [hD]; simp [Maps.size, length_sorted]
  exact ⟨D, ⟨es, clock, hb, F, by omega, hD⟩, k⟩
/-- A disk: how many sectors, their bytes, which are loose, their old bytes, how many changes, its fuse, whether it is out. -/
structure Dsk where
  N : Nat
  sec : Nat → Int
  lo : Nat → Bool
  ob : Nat → Int
  ops : Int
  fz : Option Nat
  out : Bool
  C : Nat
/-- A fuse as Go has it. -/
def fzV : Option Nat → Value
  | none => .pointer none
  | some q => .pointer (some ⟨q, 0, none⟩)
theorem fzV_one (fz : Option Nat) : (fzV fz).oneCell' = true := by cases fz <;> rfl
/-- The six cells of a disk. -/
def dcells (d s m : Nat) (D : Dsk) : List Value := [.pointer (some ⟨d, 0, none⟩), .slice (some ⟨s, 0, none⟩) D.N D.C, .map (some m), .int .i64 D.ops, fzV D.fz, .bool D.out]
/-- A disk that New or Clone made lies at block d. -/
structure DiskAt (W : World) (d s m : Nat) (D : Dsk) : Prop where
  recd : Rec19 W d 0 (dcells d s m D)
  row : IRow W s .u8 (D.N * 256) D.sec
  map : MapOk W m D.N D.lo D.ob
  sb : ∀ j, j < D.N * 256 → 0 ≤ D.sec j ∧ D.sec j < 256
  obb : ∀ n j, n < D.N → D.lo n = true → j < 256 → 0 ≤ at256 D.ob n j ∧ at256 D.ob n j < 256
  n1 : 1 ≤ D.N
  n2 : D.N ≤ 65536
  ds : d ≠ s
  dm : d ≠ m
  sm : s ≠ m
theorem DiskAt.off {W W' : World} {bs : List Nat} {d s m : Nat} {D : Dsk} (h : DiskAt W d s m D) (hB : Off bs W W') (h1 : d ∉ bs) (h2 : s ∉ bs) (h3 : m ∉ bs) : DiskAt W' d s m D :=
  { h with recd := h.recd.off hB h1, row := h.row.off hB h2, map := h.map.off hB h3 }
theorem DiskAt.below {W W' : World} {d s m : Nat} {D : Dsk} (h : DiskAt W d s m D) (hB : Below W.heap.size W W') : DiskAt W' d s m D := h.off (bs := []) (Off.of hB) (by simp) (by simp) (by simp)
theorem DiskAt.drew {W : World} {d s m : Nat} {D : Dsk} (h : DiskAt W d s m D) : DiskAt W.drew d s m D := h.below (Below.refl _ _).drew
theorem DiskAt.alloc {W : World} {d s m : Nat} {D : Dsk} (h : DiskAt W d s m D) (o : Obj) : DiskAt (W.alloc o) d s m D := h.below ((Below.refl _ _).alloc (Nat.le_refl _) _)
theorem DiskAt.dl {W : World} {d s m : Nat} {D : Dsk} (h : DiskAt W d s m D) : d < W.heap.size := h.recd.2.2
theorem DiskAt.sl {W : World} {d s m : Nat} {D : Dsk} (h : DiskAt W d s m D) : s < W.heap.size := h.row.2.2
theorem DiskAt.ml {W : World} {d s m : Nat} {D : Dsk} (h : DiskAt W d s m D) : m < W.heap.size := h.map.lt
/-- The fuse that some disks share: how many changes are left, whether it is out. -/
def FuseIs (W : World) : Option Nat → Int → Bool → Prop
  | none, _, o => o = false
  | some q, l, o => Rec19 W q 0 [.int .i64 l, .bool o] ∧ 0 ≤ l ∧ l < 9223372036854775808
theorem FuseIs.off {W W' : World} {bs : List Nat} {fz : Option Nat} {l : Int} {o : Bool} (h : FuseIs W fz l o) (hB : Off bs W W') (hn : ∀ q, fz = some q → q ∉ bs) : FuseIs W' fz l o := by
  cases fz with
  | none => exact h
  | some q => exact ⟨h.1.off hB (hn q rfl), h.2⟩
theorem FuseIs.below {W W' : World} {fz : Option Nat} {l : Int} {o : Bool} (h : FuseIs W fz l o) (hB : Below W.heap.size W W') : FuseIs W' fz l o := h.off (bs := []) (Off.of hB) (fun _ _ => by simp)
theorem eqi_ptr (d : Nat) (a : Addr) (w : World) : (Op.equalIn (d + 1) 45 (.pointer (some a)) (.pointer (some a))).run Tryz.prog w = .ok true w := by
  simp [Op.equalIn, run_underlying Tryz.underlying45, run_sameAddr_same]
theorem eql_ptr (a : Addr) (w : World) : (binOp .eql 45 (.pointer (some a)) (.pointer (some a))).run Tryz.prog w = .ok (.bool true) w := by
  have h : (Op.equal 45 (.pointer (some a)) (.pointer (some a))).run Tryz.prog w = .ok true w := eqi_ptr 9999 a w
  simp only [binOp]
  simp [h]
theorem eqi_nil (d : Nat) (a : Addr) (w : World) : (Op.equalIn (d + 1) 45 (.pointer none) (.pointer (some a))).run Tryz.prog w = .ok false w := by
  simp [Op.equalIn, run_underlying Tryz.underlying45]
theorem eql_nil (a : Addr) (w : World) : (binOp .eql 45 (.pointer none) (.pointer (some a))).run Tryz.prog w = .ok (.bool false) w := by
  have h : (Op.equal 45 (.pointer none) (.pointer (some a))).run Tryz.prog w = .ok false w := eqi_nil 9999 a w
  simp only [binOp]
  simp [h]
set_option maxRecDepth 100000 in
theorem made_ok (W : World) (d s m : Nat) (D : Dsk) (h : DiskAt W d s m D) : Calls Tryz.prog 87 #[.pointer (some ⟨d, 0, none⟩)] W fun e w' => e = .returned (.bool true) ∧ w' = W := by
  obtain ⟨c0, _⟩ := h.recd.cel 0 _ rfl
  have hp := eql_ptr ⟨d, 0, none⟩
  clear h
  go_enter Tryz.func87, Tryz.ntmps87
  go_wp2_with fail
  go_ret
  exact ⟨rfl, rfl⟩
theorem made_nil (W : World) : Calls Tryz.prog 87 #[.pointer none] W fun e w' => e = .returned (.bool false) ∧ w' = W := by
  go_enter Tryz.func87, Tryz.ntmps87
  go_wp2_with fail
  go_ret
  exact ⟨rfl, rfl⟩
set_option maxRecDepth 100000 in
theorem made_no (W : World) (d : Nat) (c0 : W.cell? ⟨d, 0, none⟩ = some (.pointer none)) : Calls Tryz.prog 87 #[.pointer (some ⟨d, 0, none⟩)] W fun e w' => e = .returned (.bool false) ∧ w' = W := by
  have hp := eql_nil ⟨d, 0, none⟩
  go_enter Tryz.func87, Tryz.ntmps87
  go_wp2_with fail
  go_ret
  exact ⟨rfl, rfl⟩
theorem blown_any (W : World) (fz : Option Nat) (l : Int) (o : Bool) (h : FuseIs W fz l o) : Calls Tryz.prog 187 #[fzV fz] W fun e w' => e = .returned (.bool o) ∧ w' = W := by
  cases fz with
  | none =>
    obtain rfl : o = false := h
    unfold fzV
    go_enter Tryz.func187, Tryz.ntmps187
    go_wp2_with fail
    go_ret
    exact ⟨rfl, rfl⟩
  | some q =>
    obtain ⟨c1, _⟩ := h.1.cel 1 _ rfl
    clear h
    unfold fzV
    go_enter Tryz.func187, Tryz.ntmps187
    go_wp2_with fail
    go_ret
    exact ⟨rfl, rfl⟩
/-- Whether a disk is up. -/
def Dsk.up (D : Dsk) (o : Bool) : Bool := !D.out && !o
theorem up_ok (W : World) (d s m : Nat) (D : Dsk) (l : Int) (o : Bool) (h : DiskAt W d s m D) (hf : FuseIs W D.fz l o) : Calls Tryz.prog 138 #[.pointer (some ⟨d, 0, none⟩)] W fun e w' => e = .returned (.bool (D.up o)) ∧ w' = W := by
  obtain ⟨c4, _⟩ := h.recd.cel 4 _ rfl
  obtain ⟨c5, _⟩ := h.recd.cel 5 _ rfl
  have HD : Hid (DiskAt W d s m D) := h
  have HF : Hid (FuseIs W D.fz l o) := hf
  have U : D.up o = (!D.out && !o) := rfl
  rw [U]
  clear U
  clear h hf
  generalize hz : D.fz = fz at c4 HF
  clear hz
  generalize D.out = b at c5
  cases b with
  | true =>
    go_enter Tryz.func138, Tryz.ntmps138
    go_wp2_with (go_at_call 87; refine (made_ok _ d s m D HD.out).mono ?_; rintro e w1 ⟨rfl, rfl⟩)
    go_ret
    exact ⟨rfl, rfl⟩
  | false =>
    go_enter Tryz.func138, Tryz.ntmps138
    go_wp2_with (first
      | (go_at_call 87; refine (made_ok _ d s m D HD.out).mono ?_; rintro e w1 ⟨rfl, rfl⟩)
      | (go_at_call 187; refine (blown_any _ fz l o HF.out).mono ?_; rintro e w1 ⟨rfl, rfl⟩))
    go_ret
    exact ⟨rfl, rfl⟩
theorem ready_ok (W : World) (d s m : Nat) (D : Dsk) (l : Int) (o : Bool) (h : DiskAt W d s m D) (hf : FuseIs W D.fz l o) : Calls Tryz.prog 93 #[.pointer (some ⟨d, 0, none⟩)] W fun e w' => e = .returned (.int .i64 (if D.up o = true then 0 else 11)) ∧ w' = W := by
  have HD : Hid (DiskAt W d s m D) := h
  have HF : Hid (FuseIs W D.fz l o) := hf
  clear h hf
  obtain ⟨b, hb⟩ : ∃ b, D.up o = b := ⟨_, rfl⟩
  have HB : Hid (D.up o = b) := hb
  rw [hb]
  clear hb
  cases b with
  | true =>
    rw [if_pos rfl]
    go_enter Tryz.func93, Tryz.ntmps93
    go_wp2_with (first
      | (go_at_call 87; refine (made_ok _ d s m D HD.out).mono ?_; rintro e w1 ⟨rfl, rfl⟩)
      | (go_at_call 138; refine (up_ok _ d s m D l o HD.out HF.out).mono ?_; rintro e w1 ⟨rfl, rfl⟩; rw [HB.out]))
    go_ret
    exact ⟨rfl, rfl⟩
  | false =>
    rw [if_neg (by simp)]
    go_enter Tryz.func93, Tryz.ntmps93
    go_wp2_with (first
      | (go_at_call 87; refine (made_ok _ d s m D HD.out).mono ?_; rintro e w1 ⟨rfl, rfl⟩)
      | (go_at_call 138; refine (up_ok _ d s m D l o HD.out HF.out).mono ?_; rintro e w1 ⟨rfl, rfl⟩; rw [HB.out]))
    go_ret
    exact ⟨rfl, rfl⟩
/-- Whether n sectors from x on are there. -/
def hasB (N : Nat) (x n : Int) : Bool := decide (0 ≤ x) && decide (0 ≤ n) && decide (n ≤ (N : Int) - x)
theorem has_ok (W : World) (d s m : Nat) (D : Dsk) (x n : Int) (h : DiskAt W d s m D) (hx : x < 9223372036854775808) : Calls Tryz.prog 94 #[.pointer (some ⟨d, 0, none⟩), .int .i64 x, .int .i64 n] W fun e w' => e = .returned (.bool (hasB D.N x n)) ∧ w' = W := by
  obtain ⟨c1, _⟩ := h.recd.cel 1 _ rfl
  have h2 := h.n2
  clear h
  unfold hasB
  by_cases a : 0 ≤ x
  · have w1 : wrap64 ((D.N : Int) - x) = (D.N : Int) - x := by unfold wrap64; omega
    have w2 : IntKind.i64.wrap ((D.N : Int) - x) = (D.N : Int) - x := by rw [IntKind.wrap_i64]; omega
    by_cases b : 0 ≤ n
    · rw [decide_eq_true a, decide_eq_true b]
      go_enter Tryz.func94, Tryz.ntmps94
      go_wp2_with fail
      go_ret
      exact ⟨by simp, rfl⟩
    · rw [decide_eq_true a, decide_eq_false b]
      go_enter Tryz.func94, Tryz.ntmps94
      go_wp2_with fail
      go_ret
      exact ⟨rfl, rfl⟩
  · rw [decide_eq_false a]
    go_enter Tryz.func94, Tryz.ntmps94
    go_wp2_with fail
    go_ret
    exact ⟨rfl, rfl⟩
/-- Whether a fuse lets a change by, and what it is then. -/
def fzPass (fz : Option Nat) (l : Int) : Bool := fz.isNone || !decide (l = 0)
def fzLeft (fz : Option Nat) (l : Int) : Int := if fz.isSome = true ∧ ¬ l = 0 then l - 1 else l
def fzOut (fz : Option Nat) (l : Int) (o : Bool) : Bool := if fz.isSome = true ∧ l = 0 then true else o
theorem pass_any (W : World) (fz : Option Nat) (l : Int) (o : Bool) (h : FuseIs W fz l o) : Calls Tryz.prog 200 #[fzV fz] W fun e w' => e = .returned (.bool (fzPass fz l)) ∧ FuseIs w' fz (fzLeft fz l) (fzOut fz l o) ∧ Off fz.toList W w' := by
  cases fz with
  | none =>
    have HF : Hid (FuseIs W none l o) := h
    clear h
    unfold fzV
    go_enter Tryz.func200, Tryz.ntmps200
    go_wp2_with fail
    go_ret
    exact ⟨rfl, HF.out, Off.refl _ _⟩
  | some q =>
    obtain ⟨c0, f0⟩ := h.1.cel 0 _ rfl
    obtain ⟨c1, f1⟩ := h.1.cel 1 _ rfl
    have HF : Hid (FuseIs W (some q) l o) := h
    have b0 := h.2.1
    have b1 := h.2.2
    clear h
    by_cases z : l = 0
    · subst z
      unfold fzV
      go_enter Tryz.func200, Tryz.ntmps200
      go_wp2_with fail
      go_ret
      exact ⟨rfl, ⟨HF.out.1.put 1 (.bool true), HF.out.2⟩, Off.set _ _ _ (by simp)⟩
    · have e1 : fzPass (some q) l = true := by simp [fzPass, z]
      have e2 : fzLeft (some q) l = l - 1 := by simp [fzLeft, z]
      have e3 : fzOut (some q) l o = o := by simp [fzOut, z]
      rw [e1, e2, e3]
      have w1 : wrap64 (l - 1) = l - 1 := by unfold wrap64; omega
      have w2 : IntKind.i64.wrap (l - 1) = l - 1 := by rw [IntKind.wrap_i64]; omega
      clear e1 e2 e3
      unfold fzV
      go_enter Tryz.func200, Tryz.ntmps200
      go_wp2_with fail
      go_ret
      exact ⟨rfl, ⟨HF.out.1.put 0 (.int .i64 (l - 1)), by omega, by omega⟩, Off.set _ _ _ (by simp)⟩
theorem ops_ok (W : World) (d s m : Nat) (D : Dsk) (h : DiskAt W d s m D) : Calls Tryz.prog 134 #[.pointer (some ⟨d, 0, none⟩)] W fun e w' => e = .returned (.int .i64 D.ops) ∧ w' = W := by
  obtain ⟨c3, _⟩ := h.recd.cel 3 _ rfl
  have HD : Hid (DiskAt W d s m D) := h
  clear h
  go_enter Tryz.func134, Tryz.ntmps134
  go_wp2_with (go_at_call 87; refine (made_ok _ d s m D HD.out).mono ?_; rintro e w1 ⟨rfl, rfl⟩)
  go_ret
  exact ⟨rfl, rfl⟩
end Go.Proofs.YtblphlcnbnklmaaGreatDoor
namespace Go.Proofs.YtblphlcnbnklmaaGreatDoor
open Go.RowKit Go.Maps
/-- A new disk. -/
def dsk0 (n : Nat) : Dsk := ⟨n, fun _ => 0, fun _ => false, fun _ => 0, 0, none, false, n⟩
theorem info_sec : (Tryz.prog.info? 164).map (fun i => (i.zero, i.size, i.bytes)) = some (some (secV fun _ => 0), 256, 256) := by kernel_rfl
theorem make_secs (n : Nat) (h : n ≤ 65536) (w : World) : ∃ cs, (Instr.makeSlice 158 (.int .i64 (n : Int)) (.int .i64 (n : Int))).run Tryz.prog w = .ok (.slice (some ⟨w.heap.size, 0, none⟩) n n) (w.alloc (.cells cs 164)) ∧ IRow (w.alloc (.cells cs 164)) w.heap.size .u8 (n * 256) (fun _ => 0) := by
  obtain ⟨i, hi, hz0, hz1, hz2⟩ := info_parts info_sec
  have h1 := run_make (P := Tryz.prog) w 158 164 i (secV fun _ => 0) Tryz.underlying158 hi hz0 .i64 .i64 n n (by omega) (by omega) (by rw [hz2]; omega) (by omega)
  rw [Int.toNat_natCast] at h1
  refine ⟨_, h1, fun j hj => ?_, fun j => by simp [go_sem], by simp⟩
  rw [World.cell?_alloc_at _ _ _ _ rfl, hz1]
  have e : (secV fun _ => 0).cells = (cl .u8 256 fun _ => 0).toArray := rfl
  rw [e]
  unfold madeCells
  have l : (cl .u8 256 fun _ => 0).toArray.size = 256 := by simp [cl_len]
  have k := cl_at .u8 256 (fun _ => 0) (j % 256) (by omega)
  simp only [Array.getElem?_map, Array.getElem?_range]
  rw [if_pos hj]
  simp only [Option.map_some, l]
  rw [getElem!_pos _ _ (by rw [l]; omega)]
  simp only [List.getElem_toArray]
  rw [List.getElem?_eq_getElem (by rw [cl_len]; omega)] at k
  exact k
set_option maxRecDepth 100000 in
theorem new_no (n : Int) (w : World) (h : n < 1 ∨ 65536 < n) : Calls Tryz.prog 57 #[.int .i64 n] w fun e w' => e = .returned (.tuple #[.pointer none, .int .i64 5]) ∧ w' = w := by
  by_cases a : n < 1
  · clear h
    go_enter Tryz.func57, Tryz.ntmps57
    go_wp2_with fail
    go_ret2
    exact ⟨rfl, rfl⟩
  · have b : 65536 < n := by omega
    clear h
    go_enter Tryz.func57, Tryz.ntmps57
    go_wp2_with fail
    go_ret2
    exact ⟨rfl, rfl⟩
/-- What New answers. -/
def NewPost (w : World) (n : Nat) (e : Ending) (w' : World) : Prop := ∃ d s m, e = .returned (.tuple #[.pointer (some ⟨d, 0, none⟩), .int .i64 0]) ∧ w.heap.size ≤ d ∧ w.heap.size ≤ s ∧ w.heap.size ≤ m ∧ DiskAt w' d s m (dsk0 n) ∧ Below w.heap.size w w'
set_option maxRecDepth 100000 in
theorem new_ok (n : Nat) (w : World) (h1 : 1 ≤ n) (h2 : n ≤ 65536) : Calls Tryz.prog 57 #[.int .i64 (n : Int)] w (NewPost w n) := by
  obtain ⟨cs, hmk, hrow⟩ := make_secs n h2 w
  have HR : Hid (IRow (w.alloc (.cells cs 164)) w.heap.size .u8 (n * 256) (fun _ => 0)) := hrow
  have hmm := fun w => run_makeMap (P := Tryz.prog) 159 w
  have a : ¬ (n : Int) < 1 := by omega
  have b : ¬ (65536 : Int) < n := by omega
  have R0 := Rec19.new ((w.alloc (.cells cs 164)).alloc (.map #[] 0)) 162 [.pointer (some ⟨w.heap.size + 1 + 1, 0, none⟩), .slice (some ⟨w.heap.size, 0, none⟩) n n, .map (some (w.heap.size + 1)), .int .i64 0, .pointer none, .bool false]
  have M0 := MapOk.new (w.alloc (.cells cs 164)) n (fun _ => 0)
  rw [World.size_alloc, World.size_alloc] at R0
  rw [World.size_alloc] at M0
  have B0 : Below w.heap.size w (((w.alloc (.cells cs 164)).alloc (.map #[] 0)).alloc (.cells #[.pointer (some ⟨w.heap.size + 1 + 1, 0, none⟩), .slice (some ⟨w.heap.size, 0, none⟩) n n, .map (some (w.heap.size + 1)), .int .i64 0, .pointer none, .bool false] 162)) :=
    (((Below.refl _ _).alloc (Nat.le_refl _) _).alloc (by simp) _).alloc (by simp; omega) _
  have DD : Hid (DiskAt (((w.alloc (.cells cs 164)).alloc (.map #[] 0)).alloc (.cells #[.pointer (some ⟨w.heap.size + 1 + 1, 0, none⟩), .slice (some ⟨w.heap.size, 0, none⟩) n n, .map (some (w.heap.size + 1)), .int .i64 0, .pointer none, .bool false] 162)) (w.heap.size + 1 + 1) w.heap.size (w.heap.size + 1) (dsk0 n) ∧ Below w.heap.size w (((w.alloc (.cells cs 164)).alloc (.map #[] 0)).alloc (.cells #[.pointer (some ⟨w.heap.size + 1 + 1, 0, none⟩), .slice (some ⟨w.heap.size, 0, none⟩) n n, .map (some (w.heap.size + 1)), .int .i64 0, .pointer none, .bool false] 162))) := by
    refine ⟨⟨R0, (hrow.alloc _).alloc _, M0.same (Below.heap_alloc _ _ _ (by simp)), fun j _ => ⟨Int.le_refl _, by show (0 : Int) < 256; decide⟩, fun n j _ h => (by cases h), h1, h2, by omega, by omega, by omega⟩, B0⟩
  clear hrow R0 M0 B0
  go_enter Tryz.func57, Tryz.ntmps57
  go_wp2_with fail
  exact bodyPost_ret (v := .tuple #[.pointer (some ⟨w.heap.size + 1 + 1, 0, none⟩), .int .i64 0]) (by simp [results, Tryz.results57]) rfl ⟨_, _, _, rfl, by omega, by omega, by omega, DD.out.1, DD.out.2⟩
/-- All sectors are safe. -/
def Dsk.safe (D : Dsk) : Dsk := { D with lo := fun _ => false }
/-- One change more. -/
def Dsk.more (D : Dsk) : Dsk := { D with ops := D.ops + 1 }
theorem settle_ok (W : World) (d s m : Nat) (D : Dsk) (h : DiskAt W d s m D) : Calls Tryz.prog 170 #[.pointer (some ⟨d, 0, none⟩)] W fun e w' => e = .returned (.tuple #[]) ∧ DiskAt w' d s W.heap.size D.safe ∧ Off [d] W w' := by
  have hmm := fun w => run_makeMap (P := Tryz.prog) 159 w
  have hd := h.dl
  have hs := h.sl
  have O1 : Off [d] W ((W.setCell ⟨d, 2, none⟩ (.map (some W.heap.size))).alloc (.map #[] 0)) := (Off.set W 2 _ (by simp)).alloc _
  have R1 := (h.recd.put 2 (.map (some W.heap.size))).below ((Below.refl _ _).alloc (Nat.le_refl _) (.map #[] 0))
  have zz : (W.setCell ⟨d, 2, none⟩ (.map (some W.heap.size))).heap.size = W.heap.size := by simp [World.setCell]
  have M1 := MapOk.new (W.setCell ⟨d, 2, none⟩ (.map (some W.heap.size))) D.N D.ob
  rw [zz] at M1
  have DD : Hid (DiskAt ((W.setCell ⟨d, 2, none⟩ (.map (some W.heap.size))).alloc (.map #[] 0)) d s W.heap.size D.safe ∧ Off [d] W ((W.setCell ⟨d, 2, none⟩ (.map (some W.heap.size))).alloc (.map #[] 0))) :=
    ⟨⟨R1, h.row.off O1 (by have := h.ds; simp; omega), M1, h.sb, fun n j _ q => (by cases q), h.n1, h.n2, h.ds, by omega, by omega⟩, O1⟩
  obtain ⟨c2, f2⟩ := h.recd.cel 2 _ rfl
  have c2' : (W.alloc (.map #[] 0)).cell? ⟨d, 2, none⟩ = some (.map (some m)) := by rw [World.cell?_alloc_past _ _ _ (by show d < W.heap.size; omega)]; exact c2
  have f2' : (W.alloc (.map #[] 0)).frozen? ⟨d, 2, none⟩ = false := (Below.frozen ((Below.refl W.heap.size W).alloc (Nat.le_refl _) (.map #[] 0)) hd).trans f2
  clear h R1 O1 M1 zz c2 f2
  go_enter Tryz.func170, Tryz.ntmps170
  go_wp2_with fail
  go_end0
  exact ⟨rfl, DD.out.1, DD.out.2⟩
end Go.Proofs.YtblphlcnbnklmaaGreatDoor
namespace Go.Proofs.YtblphlcnbnklmaaGreatDoor
open Go.RowKit Go.Maps
theorem DiskAt.bump {W : World} {d s m : Nat} {D : Dsk} (h : DiskAt W d s m D) : DiskAt (W.setCell ⟨d, 3, none⟩ (.int .i64 (D.ops + 1))) d s m D.more := by
  have O : Off [d] W (W.setCell ⟨d, 3, none⟩ (.int .i64 (D.ops + 1))) := Off.set _ _ _ (by simp)
  exact { h with recd := h.recd.put 3 (.int .i64 (D.ops + 1)), row := h.row.off O (by have := h.ds; simp; omega), map := h.map.off O (by have := h.dm; simp; omega) }
/-- A disk's fuse lies apart from the disk. -/
def FzOk (D : Dsk) (d s m : Nat) : Prop := ∀ q, D.fz = some q → q ≠ d ∧ q ≠ s ∧ q ≠ m
theorem DiskAt.past {W W' : World} {d s m : Nat} {D : Dsk} (h : DiskAt W d s m D) (hB : Off D.fz.toList W W') (hq : FzOk D d s m) : DiskAt W' d s m D := by
  have k : ∀ x, x ∈ D.fz.toList → x ≠ d ∧ x ≠ s ∧ x ≠ m := fun x hx => by
    cases e : D.fz with
    | none => rw [e] at hx; simp at hx
    | some q => rw [e] at hx; simp at hx; subst hx; exact hq _ e
  exact h.off hB (fun x => (k _ x).1 rfl) (fun x => (k _ x).2.1 rfl) (fun x => (k _ x).2.2 rfl)
theorem fz_mem {fz : Option Nat} {x : Nat} (h : x ∈ fz.toList) : fz = some x := by
  cases fz with
  | none => simp at h
  | some q => simp at h; rw [h]
/-- What a change that is done leaves. -/
def DonePost (W : World) (d s : Nat) (D D' : Dsk) (l : Int) (o : Bool) (bs : List Nat) (e : Ending) (w' : World) : Prop := e = .returned (.int .i64 0) ∧ ∃ m', (m' ∈ bs ∨ W.heap.size ≤ m') ∧ DiskAt w' d s m' D' ∧ FuseIs w' D.fz (fzLeft D.fz l) o ∧ Off (bs ++ D.fz.toList) W w'
/-- What a change that the fuse does not let by leaves. -/
def BlowPost (W : World) (d s m : Nat) (D : Dsk) (l : Int) (e : Ending) (w' : World) : Prop := e = .returned (.int .i64 11) ∧ DiskAt w' d s m D ∧ FuseIs w' D.fz l true ∧ Off D.fz.toList W w'
theorem fzOut_pass {fz : Option Nat} {l : Int} {o : Bool} (h : fzPass fz l = true) : fzOut fz l o = o := by
  unfold fzPass at h
  unfold fzOut
  cases fz with
  | none => simp
  | some q => simp at h; simp [h]
theorem fzOut_stop {fz : Option Nat} {l : Int} {o : Bool} (h : fzPass fz l = false) : fzOut fz l o = true ∧ fzLeft fz l = l := by
  unfold fzPass at h
  unfold fzOut fzLeft
  cases fz with
  | none => simp at h
  | some q => simp at h; simp [h]
theorem stop_post {W w1 : World} {d s m : Nat} {D : Dsk} {l : Int} {o : Bool} (h : DiskAt W d s m D) (hq : FzOk D d s m) (hp : fzPass D.fz l = false) (h1 : FuseIs w1 D.fz (fzLeft D.fz l) (fzOut D.fz l o)) (h2 : Off D.fz.toList W w1) : BlowPost W d s m D l (.returned (.int .i64 11)) w1 := by
  obtain ⟨a, b⟩ := fzOut_stop (o := o) hp
  rw [a, b] at h1
  exact ⟨rfl, h.past h2 hq, h1, h2⟩
end Go.Proofs.YtblphlcnbnklmaaGreatDoor
namespace Go.Proofs.YtblphlcnbnklmaaGreatDoor
open Go.RowKit Go.Maps
theorem zero_sec (w : World) : (zeroValue 164).run Tryz.prog w = .ok (secV fun _ => 0) w := by
  obtain ⟨i, hi, hz0, hz1, hz2⟩ := info_parts info_sec
  simp [zeroValue, typeInfo, hi, hz0]
theorem held_inj {v u : Value} {ps : List MemPlace} (h : heldR v = some (.held u, ps)) : v = u := by
  unfold heldR at h
  injection h with h
  injection h with h _
  injection h
/-- What lies at a sector's number in the map of old ones. -/
def oldF (lo : Nat → Bool) (ob : Nat → Int) (i : Nat) : Nat → Int := if lo i = true then at256 ob i else fun _ => 0
theorem look_at (b : Bool) {W : World} {m N i : Nat} {lo : Nat → Bool} {ob : Nat → Int} (h : MapOk W m N lo ob) (hi : i < N) (hN : N ≤ 65536) :
    (Instr.lookup 159 (.map (some m)) (.int .i64 (i : Int)) b).run Tryz.prog W = .ok (if b = true then .tuple #[secV (oldF lo ob i), .bool (lo i)] else secV (oldF lo ob i)) W := by
  obtain ⟨D, n, h, k⟩ := h
  have at' : D.atKey (.int .i64 (i : Int)) (.held (secV fun _ => 0)) = .held (secV (oldF lo ob i)) := by
    unfold oldF
    cases e : lo i with
    | true => rw [if_pos rfl]; exact k.val i hi e _
    | false => rw [if_neg (by simp)]; exact atKey_of_not_has ((k.iff i hi).trans e) _
  cases b with
  | true =>
    obtain ⟨v, ps, hr, hv⟩ := h.look_ok keyed_int Tryz.underlying159 (zero_sec W) (zd := .held (secV fun _ => 0)) (zp := []) rfl (key_nat i (by omega))
    rw [at'] at hv
    rw [hr, held_inj hv, k.iff i hi, if_pos rfl]
  | false =>
    obtain ⟨v, ps, hr, hv⟩ := h.lookup keyed_int Tryz.underlying159 (zero_sec W) (zd := .held (secV fun _ => 0)) (zp := []) rfl (key_nat i (by omega))
    rw [at'] at hv
    rw [hr, held_inj hv, if_neg (by simp)]
/-- F with sector i as f. -/
def putF (F : Nat → Int) (i : Nat) (f : Nat → Int) (j : Nat) : Int := if j / 256 = i then f (j % 256) else F j
theorem putF_same (F : Nat → Int) (i : Nat) (f : Nat → Int) (j : Nat) (hj : j < 256) : at256 (putF F i f) i j = f j := by
  unfold at256 putF
  rw [if_pos (by omega), show (i * 256 + j) % 256 = j by omega]
theorem putF_other (F : Nat → Int) (i n : Nat) (f : Nat → Int) (j : Nat) (hj : j < 256) (h : n ≠ i) : at256 (putF F i f) n j = at256 F n j := by
  unfold at256 putF
  rw [if_neg (by omega)]
/-- b at i too. -/
def setB (lo : Nat → Bool) (i : Nat) (n : Nat) : Bool := if n = i then true else lo n
theorem lit_ne {n i : Nat} (e : ¬ n = i) : Lit.int .i64 (n : Int) ≠ Lit.int .i64 (i : Int) := by
  intro q
  have q' : (n : Int) = i := by simpa using q
  omega
theorem put_at {W : World} {m N i : Nat} {lo : Nat → Bool} {ob : Nat → Int} (f : Nat → Int) (h : MapOk W m N lo ob) (hi : i < N) (hN : N ≤ 65536) :
    ∃ W', (Instr.mapUpdate 159 (.map (some m)) (.int .i64 (i : Int)) (secV f)).run Tryz.prog W = .ok () W' ∧ MapOk W' m N (setB lo i) (putF ob i f) ∧ Off [m] W W' := by
  obtain ⟨D, h, k⟩ := h.tight
  obtain ⟨W', hr, ho, hg⟩ := h.update keyed_int Tryz.underlying159 (by unfold maxLen; omega) (key_nat i (by omega)) (val := secV f) (d := .held (secV f)) (ps := []) rfl
  have kl : WideAt.IsKeyLit (.int .i64 (i : Int)) := trivial
  refine ⟨W', hr, ⟨_, _, ho, k.map.put _ _, fun x hx => ?_, fun n hn => ?_, fun n hn hl z => ?_⟩, Off.grown hg (fun r e => by cases e; simp)⟩
  · by_cases e : x = (i : Int)
    · exact ⟨i, e, hi⟩
    · rw [has_put_other (fun q => e (by simpa using q))] at hx
      exact k.only x hx
  · unfold setB
    by_cases e : n = i
    · subst e
      rw [if_pos rfl]
      exact has_put_same k.map kl _
    · rw [if_neg e, has_put_other (lit_ne e)]
      exact k.iff n hn
  · unfold setB at hl
    by_cases e : n = i
    · subst e
      rw [atKey_put_same k.map kl]
      unfold secV
      rw [cl_congr .u8 256 _ _ (fun j hj => (putF_same ob n f j hj).symm)]
    · rw [if_neg e] at hl
      rw [atKey_put_other (lit_ne e), k.val n hn hl z]
      unfold secV
      rw [cl_congr .u8 256 _ _ (fun j hj => (putF_other ob i n f j hj e).symm)]
/-- A disk whose sector i is loose. -/
def Dsk.loosen (D : Dsk) (i : Nat) : Dsk := { D with lo := setB D.lo i, ob := if D.lo i = true then D.ob else putF D.ob i (at256 D.sec i) }
theorem sec_at {W : World} {d s m : Nat} {D : Dsk} (h : DiskAt W d s m D) (i : Nat) (hi : i < D.N) : W.rangeAt s (i * 256) (cl .u8 256 (at256 D.sec i)) := by
  intro j v hj
  obtain ⟨hk, rfl⟩ := cl_at' hj
  exact h.row.1 (i * 256 + j) (by omega)
/-- An operation that yields nothing and alone may come up, its run known. -/
theorem skip_at {P : Program} {ops : Array Oper} {Q : Exit → Act → World → Prop} {md : Region.Mode} {S : World → Prop} {i : Nat} {o : Oper} {fuel : Nat} {listed : Array Bool} {a : Act} {w : World} (d : Option Tmp) (hi : ops[i]? = some o) (hd : o.dst = d) (hw : Region.wanted o (yielded ops a.tmps) = true) (hr : Region.ready md ops listed = [i])
    (w' : World) (hx : (execOp a.eval o).run P w = .ok .skip w') (hS : S w') (h : S w' → wpAnyH P md ops Q S fuel (listed.setIfInBounds i true) (a.put d undef) w') : wpAnyH P md ops Q S (fuel + 1) listed a w := by
  subst hd
  refine wpAnyH_all hr (by simp) (fun j hj => ?_)
  obtain rfl : j = i := by simpa using hj
  unfold wpOp
  simp only [hi, hw, if_true]
  refine .inl ?_
  unfold Oper.wp
  rw [hx]
  exact ⟨hS, h hS⟩
theorem mapup_run {a : Act} {w : World} {o : Oper} (t : TypeId) (m x v : Operand) (hop : o.op = .mapUpdate t m x v) (M X V : Value) (hm : a.eval m = M) (hx : a.eval x = X) (hv : a.eval v = V) {w' : World} (hr : (Instr.mapUpdate t M X V).run Tryz.prog w = .ok () w') :
    (execOp a.eval o).run Tryz.prog w = .ok .skip w' := by
  simp [execOp, hop, hm, hx, hv, hr, Result.andThen]
theorem DiskAt.loosed {W W' : World} {d s m i : Nat} {D : Dsk} (h : DiskAt W d s m D) (hl : D.lo i = false) (hi : i < D.N) (hm : MapOk W' m D.N (setB D.lo i) (putF D.ob i (at256 D.sec i))) (hO : Off [m] W W') : DiskAt W' d s m (D.loosen i) := by
  have e : (D.loosen i).ob = putF D.ob i (at256 D.sec i) := if_neg (by rw [hl]; simp)
  refine { recd := h.recd.off hO (by have := h.dm; simp; omega), row := h.row.off hO (by have := h.sm; simp; omega), map := ?_, sb := h.sb, obb := fun n j hn q hj => ?_, n1 := h.n1, n2 := h.n2, ds := h.ds, dm := h.dm, sm := h.sm }
  · rw [e]; exact hm
  · rw [e]
    by_cases g : n = i
    · subst g
      rw [putF_same _ _ _ _ hj]
      have hn' : n < D.N := hn
      exact h.sb _ (by omega)
    · rw [putF_other _ _ _ _ _ hj g]
      have : setB D.lo i n = true := q
      unfold setB at this
      rw [if_neg g] at this
      exact h.obb n j hn this hj
theorem DiskAt.loosed' {W : World} {d s m i : Nat} {D : Dsk} (h : DiskAt W d s m D) (hl : D.lo i = true) : DiskAt W d s m (D.loosen i) := by
  have e : (D.loosen i).ob = D.ob := if_pos hl
  have e2 : ∀ n, D.lo n = setB D.lo i n := fun n => by
    unfold setB
    by_cases g : n = i
    · rw [if_pos g, g, hl]
    · rw [if_neg g]
  refine { recd := h.recd, row := h.row, map := ?_, sb := h.sb, obb := fun n j hn q hj => ?_, n1 := h.n1, n2 := h.n2, ds := h.ds, dm := h.dm, sm := h.sm }
  · rw [e]; exact h.map.congr (fun n _ => e2 n) (fun _ _ _ _ _ => rfl)
  · rw [e]; exact h.obb n j hn ((e2 n).trans q) hj
set_option maxRecDepth 100000 in
set_option maxHeartbeats 1000000 in
theorem loosen_ok (W : World) (d s m i : Nat) (D : Dsk) (h : DiskAt W d s m D) (hi : i < D.N) : Calls Tryz.prog 177 #[.pointer (some ⟨d, 0, none⟩), .int .i64 (i : Int)] W fun e w' => e = .returned (.tuple #[]) ∧ DiskAt w' d s m (D.loosen i) ∧ Off [m] W w' := by
  obtain ⟨c1, f1⟩ := h.recd.cel 1 _ rfl
  obtain ⟨c2, f2⟩ := h.recd.cel 2 _ rfl
  have hlk := look_at true h.map hi h.n2
  rw [if_pos rfl] at hlk
  unfold secV at hlk
  have HD : Hid (DiskAt W d s m D) := h
  have h2 := h.n2
  have i0 : (0 : Int) ≤ i := by omega
  have i1 : (i : Int) < D.N := by omega
  clear h
  cases e : D.lo i with
  | true =>
    have HE : Hid (D.lo i = true) := e
    rw [e] at hlk
    clear e
    go_enter Tryz.func177, Tryz.ntmps177
    go_wp2_with (first
      | (refine wpList_alloc_row rfl 164 rfl .u8 256 W.heap.size rfl (by kernel_rfl) ?_; intro W1 R1 B1 z1)
      | (refine wpList_store_row rfl 164 (.tmp 4) (.tmp 13) rfl W.heap.size .u8 256 (oldF D.lo D.ob i) (fun _ => 0) rfl rfl R1 (by kernel_rfl) ?_; intro W2 R2 B2 z2))
    go_end0
    have B3 : Below W.heap.size W W2 := B1.trans (B2.below (Nat.le_refl _) (by omega))
    exact ⟨rfl, (HD.out.below B3).loosed' HE.out, Off.of B3⟩
  | false =>
    have HE : Hid (D.lo i = false) := e
    rw [e] at hlk
    clear e
    go_enter Tryz.func177, Tryz.ntmps177
    go_wp2_with (first
      | (refine wpList_alloc_row rfl 164 rfl .u8 256 W.heap.size rfl (by kernel_rfl) ?_; intro W1 R1 B1 z1)
      | (refine wpList_store_row rfl 164 (.tmp 4) (.tmp 13) rfl W.heap.size .u8 256 (oldF D.lo D.ob i) (fun _ => 0) rfl rfl R1 (by kernel_rfl) ?_; intro W2 R2 B2 z2))
    have B3 : Below W.heap.size W W2 := B1.trans (B2.below (Nat.le_refl _) (by omega))
    have D3 : DiskAt W2.drew d s m D := (HD.out.below B3).drew
    obtain ⟨c1', _⟩ := D3.recd.cel 1 _ rfl
    obtain ⟨c2', _⟩ := D3.recd.cel 2 _ rfl
    obtain ⟨W4, hr4, hM4, hO4⟩ := put_at (at256 D.sec i) D3.map hi h2
    have PP : Hid (DiskAt W4 d s m (D.loosen i) ∧ Off [m] W W4) := ⟨D3.loosed HE.out hi hM4 hO4, (Off.of B3.drew).trans hO4⟩
    have rng := sec_at D3 i hi
    have S4 : W4.cell? ⟨d, 1, none⟩ = some (.slice (some ⟨s, 0, none⟩) D.N D.C) ∧ W4.cell? ⟨d, 2, none⟩ = some (.map (some m)) ∧ W4.rangeAt s (i * 256) (cl .u8 256 (at256 D.sec i)) :=
      ⟨(PP.out.1.recd.cel 1 _ rfl).1, (PP.out.1.recd.cel 2 _ rfl).1, sec_at PP.out.1 i hi⟩
    clear D3 hM4 hO4 B3 B1 B2 R1 R2 hlk
    unfold secV at hr4
    refine wp_region_noPanic ?_
    refine wp_region_held_drew (S := fun W => W.cell? ⟨d, 1, none⟩ = some (.slice (some ⟨s, 0, none⟩) D.N D.C) ∧ W.cell? ⟨d, 2, none⟩ = some (.map (some m)) ∧ W.rangeAt s (i * 256) (cl .u8 256 (at256 D.sec i))) (by kernel_rfl) ?_ (fun hHeld => ?_)
    · exact ⟨c1', c2', rng⟩
    refine take_at (i := 0) (v := ?_) (some 17) rfl rfl (by kernel_rfl) (by kernel_rfl) (by kernel_rfl) (fun _ _ _ h => h) (Or.inl ⟨by rfl, ?_⟩) (by assumption) ?_
    rotate_left
    · (intro w hSw; (try dsimp only at hSw); obtain ⟨q1, q2, q3⟩ := hSw; clear q3; go_simp; try with_reducible rfl)
    simp only [Act.put, List.setIfInBounds_toArray, List.set_cons_zero, List.set_cons_succ]
    refine take_at (i := 1) (v := ?_) (some 18) rfl rfl (by kernel_rfl) (by kernel_rfl) (by kernel_rfl) (fun _ _ _ h => h) (Or.inl ⟨by rfl, ?_⟩) (by assumption) ?_
    rotate_left
    · (intro w hSw; (try dsimp only at hSw); obtain ⟨q1, q2, q3⟩ := hSw; clear q3; go_simp; try with_reducible rfl)
    simp only [Act.put, List.setIfInBounds_toArray, List.set_cons_zero, List.set_cons_succ]
    refine take_at (i := 2) (v := ?_) (some 19) rfl rfl (by kernel_rfl) (by kernel_rfl) (by kernel_rfl) (fun _ _ _ h => h) (Or.inl ⟨by rfl, ?_⟩) (by assumption) ?_
    rotate_left
    · (intro w hSw; (try dsimp only at hSw); obtain ⟨q1, q2, q3⟩ := hSw; clear q3; go_simp; try with_reducible rfl)
    simp only [Act.put, List.setIfInBounds_toArray, List.set_cons_zero, List.set_cons_succ]
    refine take_at (i := 3) (v := ?_) (some 20) rfl rfl (by kernel_rfl) (by kernel_rfl) (by kernel_rfl) (fun _ _ _ h => h) (Or.inl ⟨by rfl, ?_⟩) (by assumption) ?_
    rotate_left
    · (intro w hSw; (try dsimp only at hSw); obtain ⟨q1, q2, q3⟩ := hSw; clear q3; go_simp; try with_reducible rfl)
    simp only [Act.put, List.setIfInBounds_toArray, List.set_cons_zero, List.set_cons_succ]
    refine take_at (i := 4) (v := ?_) (some 21) rfl rfl (by kernel_rfl) (by kernel_rfl) (by kernel_rfl) (fun _ _ _ h => h) (Or.inl ⟨by rfl, ?_⟩) (by assumption) ?_
    rotate_left
    · (intro w hSw; (try dsimp only at hSw); obtain ⟨q1, q2, q3⟩ := hSw; clear q3; go_simp; try with_reducible rfl)
    simp only [Act.put, List.setIfInBounds_toArray, List.set_cons_zero, List.set_cons_succ]
    refine take_at (i := 5) (v := ?_) (some 22) rfl rfl (by kernel_rfl) (by kernel_rfl) (by kernel_rfl) (fun _ _ _ h => h) (Or.inl ⟨by rfl, ?_⟩) (by assumption) ?_
    rotate_left
    · (intro w hSw; (try dsimp only at hSw); obtain ⟨q1, q2, q3⟩ := hSw; clear q3; go_simp; try with_reducible rfl)
    simp only [Act.put, List.setIfInBounds_toArray, List.set_cons_zero, List.set_cons_succ]
    refine take_at (i := 6) (v := ?_) (some 23) rfl rfl (by kernel_rfl) (by kernel_rfl) (by kernel_rfl) (fun _ _ _ h => h) (Or.inl ⟨by rfl, ?_⟩) (by assumption) ?_
    rotate_left
    · (intro w hSw; (try dsimp only at hSw); obtain ⟨q1, q2, q3⟩ := hSw; clear q3; go_simp; try with_reducible rfl)
    simp only [Act.put, List.setIfInBounds_toArray, List.set_cons_zero, List.set_cons_succ]
    refine take_at (i := 7) (v := ?_) (some 24) rfl rfl (by kernel_rfl) (by kernel_rfl) (by kernel_rfl) (fun _ _ _ h => h) (Or.inl ⟨by rfl, ?_⟩) (by assumption) ?_
    rotate_left
    · (intro w hSw; (try dsimp only at hSw); obtain ⟨q1, q2, q3⟩ := hSw; clear q3; go_simp; try with_reducible rfl)
    simp only [Act.put, List.setIfInBounds_toArray, List.set_cons_zero, List.set_cons_succ]
    refine take_at (i := 8) (v := ?_) (some 25) rfl rfl (by kernel_rfl) (by kernel_rfl) (by kernel_rfl) (fun _ _ _ h => h) (Or.inl ⟨by rfl, ?_⟩) (by assumption) ?_
    rotate_left
    · (intro w hSw; (try dsimp only at hSw); obtain ⟨q1, q2, q3⟩ := hSw; clear q3; go_simp; try with_reducible rfl)
    simp only [Act.put, List.setIfInBounds_toArray, List.set_cons_zero, List.set_cons_succ]
    refine take_at (i := 9) (v := ?_) (some 26) rfl rfl (by kernel_rfl) (by kernel_rfl) (by kernel_rfl) (fun _ _ _ h => h) (Or.inl ⟨by rfl, ?_⟩) (by assumption) ?_
    rotate_left
    · (intro w hSw; (try dsimp only at hSw); obtain ⟨q1, q2, q3⟩ := hSw; clear q3; go_simp; try with_reducible rfl)
    simp only [Act.put, List.setIfInBounds_toArray, List.set_cons_zero, List.set_cons_succ]
    refine take_at (i := 10) (v := ?_) (some 27) rfl rfl (by kernel_rfl) (by kernel_rfl) (by kernel_rfl) (fun _ _ _ h => h) (Or.inl ⟨by rfl, ?_⟩) (by assumption) ?_
    rotate_left
    · (intro w hSw; (try dsimp only at hSw); obtain ⟨q1, q2, q3⟩ := hSw; clear q3; go_simp; try with_reducible rfl)
    simp only [Act.put, List.setIfInBounds_toArray, List.set_cons_zero, List.set_cons_succ]
    refine take_at (i := 11) (v := _) (some 28) rfl rfl (by kernel_rfl) (by kernel_rfl) (by kernel_rfl) (fun _ _ _ h => h) (yieldsIf_load_mid (by rfl) 164 (.tmp 27) rfl s (i * 256) rfl (cl .u8 256 (at256 D.sec i)) _ (fun _ h => h.2.2) Tryz.underlying164 rfl (by rw [cl_len]; kernel_rfl)) (by assumption) ?_
    simp only [Act.put, List.setIfInBounds_toArray, List.set_cons_zero, List.set_cons_succ]
    refine skip_at (i := 12) none rfl rfl (by rfl) (by kernel_rfl) W4 (mapup_run 159 (.tmp 20) (.tmp 21) (.tmp 28) rfl _ _ _ rfl rfl rfl hr4) S4 (fun hHeld => ?_)
    simp only [Act.put]
    refine wpAnyH_done (by kernel_rfl) ?_ _
    refine NoPanic.normal ?_
    go_wp2_with fail
    go_end0
    exact ⟨rfl, PP.out.1, PP.out.2⟩
end Go.Proofs.YtblphlcnbnklmaaGreatDoor
namespace Go.Proofs.YtblphlcnbnklmaaGreatDoor
open Go.RowKit Go.Maps
/-- A whole sector is stored. -/
theorem irow_put {W : World} {s N i : Nat} {F : Nat → Int} (g : Nat → Int) (h : IRow W s .u8 (N * 256) F) (hi : i < N) :
    ∃ W2, (Instr.storeAt 164 (.pointer (some ⟨s, i * 256, none⟩)) (secV g)).run Tryz.prog W = .ok () W2 ∧ IRow W2 s .u8 (N * 256) (putF F i g) ∧ But s W W2 := by
  have ht : W.there s (i * 256) (cl .u8 256 g).toArray.size := by
    intro j hj
    have hj' : j < 256 := by simpa [cl_len] using hj
    exact ⟨by rw [h.1 _ (by omega)]; rfl, h.2.1 _⟩
  refine ⟨_, run_storeAt_mid (P := Tryz.prog) W s (i * 256) 164 (cl .u8 256 g).toArray ht (by simp only [List.size_toArray, cl_len]; kernel_rfl) (all_oneCell_toArray (cl_one _ _ _)), ⟨fun j hj => ?_, fun j => by rw [World.frozen?_setCells]; exact h.2.1 j, Nat.lt_of_lt_of_le h.2.2 (But.cells _ _ _).size⟩, But.cells _ _ _⟩
  by_cases e : j / 256 = i
  · have hr := World.rangeAt_setCells_same W s (i * 256) (cl .u8 256 g) (by simpa using ht) (j % 256) _ (cl_at .u8 256 g (j % 256) (by omega))
    rw [show i * 256 + j % 256 = j by omega] at hr
    unfold putF
    rw [if_pos e]
    exact hr
  · unfold putF
    rw [if_neg e, World.cell?_setCells_out s _ _ _ _ (fun _ _ => by simp only [cl_len]; omega)]
    exact h.1 j hj
/-- A disk of which sector i is written as g. -/
def Dsk.step (D : Dsk) (i : Nat) (g : Nat → Int) : Dsk := { D.loosen i with sec := putF D.sec i g }
theorem DiskAt.stepped {W W2 : World} {d s m i : Nat} {D : Dsk} {g : Nat → Int} (h : DiskAt W d s m (D.loosen i)) (hr : IRow W2 s .u8 (D.N * 256) (putF D.sec i g)) (hB : But s W W2) (hg : ∀ j, j < 256 → 0 ≤ g j ∧ g j < 256) : DiskAt W2 d s m (D.step i g) := by
  have O : Off [s] W W2 := Off.but hB (by simp)
  have hN : (D.step i g).N = D.N := rfl
  refine { recd := h.recd.off O (by have := h.ds; simp; omega), row := hr, map := h.map.off O (by have := h.sm; simp; omega), sb := fun j hj => ?_, obb := h.obb, n1 := h.n1, n2 := h.n2, ds := h.ds, dm := h.dm, sm := h.sm }
  show 0 ≤ putF D.sec i g j ∧ putF D.sec i g j < 256
  unfold putF
  split
  · exact hg _ (by omega)
  · exact h.sb j hj
/-- A disk of which k sectors from a on are written as F has them. -/
def Dsk.wrote (D : Dsk) (a : Nat) (F : Nat → Int) : Nat → Dsk
  | 0 => D
  | k + 1 => (D.wrote a F k).step (a + k) (fun j => F (k * 256 + j))
theorem Dsk.wrote_N (D : Dsk) (a : Nat) (F : Nat → Int) : ∀ k, (D.wrote a F k).N = D.N
  | 0 => rfl
  | k + 1 => D.wrote_N a F k
theorem Dsk.wrote_fz (D : Dsk) (a : Nat) (F : Nat → Int) : ∀ k, (D.wrote a F k).fz = D.fz
  | 0 => rfl
  | k + 1 => D.wrote_fz a F k
theorem Dsk.wrote_ops (D : Dsk) (a : Nat) (F : Nat → Int) : ∀ k, (D.wrote a F k).ops = D.ops
  | 0 => rfl
  | k + 1 => D.wrote_ops a F k
/-- .. of which pieces in whatever order are written. -/
def wrP {c : Nat} (D : Dsk) (a : Nat) (F : Nat → Int) (pre : List (Fin c)) : Nat × Dsk := pre.foldl (fun p x => (p.1 + 1, p.2.step p.1 (fun j => F (x.1 * 256 + j)))) (a, D)
theorem wrP_snoc {c : Nat} (D : Dsk) (a : Nat) (F : Nat → Int) (pre : List (Fin c)) (x : Fin c) : wrP D a F (pre ++ [x]) = ((wrP D a F pre).1 + 1, (wrP D a F pre).2.step (wrP D a F pre).1 (fun j => F (x.1 * 256 + j))) := by
  unfold wrP
  rw [List.foldl_append]
  rfl
theorem wrP_one {c : Nat} (F : Nat → Int) : ∀ (pre : List (Fin c)) (D : Dsk) (a : Nat), (wrP D a F pre).1 = a + pre.length ∧ (wrP D a F pre).2.N = D.N
  | [], _, _ => ⟨rfl, rfl⟩
  | x :: pre, D, a => by
    have ih := wrP_one F pre (D.step a (fun j => F (x.1 * 256 + j))) (a + 1)
    refine ⟨?_, ih.2⟩
    show (wrP (D.step a (fun j => F (x.1 * 256 + j))) (a + 1) F pre).1 = a + (pre.length + 1)
    rw [ih.1]
    omega
theorem wrP_all {c : Nat} (D : Dsk) (a : Nat) (F : Nat → Int) : ∀ k, k ≤ c → (wrP D a F (upTo c k)).2 = D.wrote a F k
  | 0, _ => rfl
  | k + 1, hk => by
    rw [upTo_succ c k (by omega), wrP_snoc]
    show (wrP D a F (upTo c k)).2.step (wrP D a F (upTo c k)).1 _ = (D.wrote a F k).step (a + k) _
    rw [wrP_all D a F k (by omega), (wrP_one F (upTo c k) D a).1, upTo_length c k (by omega)]
theorem store_skip {a : Act} {w : World} {o : Oper} (t : TypeId) (x v : Operand) (hop : o.op = .store t x v) (X V : Value) (hx : a.eval x = X) (hv : a.eval v = V) {w' : World} (hr : (Instr.storeAt t X V).run Tryz.prog w = .ok () w') :
    (execOp a.eval o).run Tryz.prog w = .ok .skip w' := by
  simp [execOp, hop, hx, hv, hr, Result.andThen]
theorem arr_run {a : Act} {w : World} {o : Oper} (x : Operand) (hop : o.op = .sliceToArrayPointer 164 x) (A : Option Addr) (C : Nat) (hx : a.eval x = .slice A 256 C) :
    (execOp a.eval o).run Tryz.prog w = .ok (.value (.pointer A)) w := by
  have h := run_arrayAt (P := Tryz.prog) w 164 5 256 A 256 C Tryz.underlying164 (Nat.le_refl _)
  simp [execOp, hop, hx, h, Result.andThen]
end Go.Proofs.YtblphlcnbnklmaaGreatDoor
namespace Go.Proofs.YtblphlcnbnklmaaGreatDoor
open Go.RowKit Go.Maps Go.Shelf
attribute [local go_sem] Oper.semAt_some
/-- What holds while the pieces come. -/
def wrI (W0 : World) (B d s m B3 B4 b off c a : Nat) (D : Dsk) (f : Nat → Int) (pre : List (Fin c)) (W : World) : Prop :=
  DiskAt W d s m (wrP D a f pre).2 ∧ W.cell? ⟨B3, 0, none⟩ = some (.pointer (some ⟨d, 0, none⟩)) ∧ W.cell? ⟨B4, 0, none⟩ = some (.int .i64 ((wrP D a f pre).1 : Int)) ∧ W.frozen? ⟨B4, 0, none⟩ = false ∧ Lies W b off (c * 256) f ∧ Off [s, m, B4] W0 W ∧ B ≤ W.heap.size ∧ B3 < W.heap.size ∧ B4 < W.heap.size
theorem Lies.off {u v : World} {b off n : Nat} {bs : List Nat} {f : Nat → Int} (h : Lies u b off n f) (hb : Off bs u v) (hn : b ∉ bs) : Lies v b off n f :=
  ⟨fun j hj => (hb.cell (p := ⟨b, off + j, none⟩) h.2.2 hn).trans (h.1 j hj), h.2.1, Nat.lt_of_lt_of_le h.2.2 hb.size⟩
theorem wrI_own (W0 : World) (B d s m B3 B4 b off c a : Nat) (D : Dsk) (f : Nat → Int) (h0 : W0.heap.size ≤ B) (h1 : d < B) (h2 : s < B) (h3 : m < B) (h4 : B3 < B) (h5 : B4 < B) (h6 : b < B) : OwnFrom (β := List (Fin c)) B (wrI W0 B d s m B3 B4 b off c a D f) := by
  rintro pre X Y row ⟨k1, k2, k3, k4, k5, k6, k7, k8, k9⟩ hg hr
  have O : Off row.toList X Y := Off.grown hg (fun r e => by rw [e]; simp)
  have no : ∀ k, k < B → k ∉ row.toList := fun k hk q => by
    have := (hr k (fz_mem q)).1
    omega
  refine ⟨k1.off O (no _ h1) (no _ h2) (no _ h3), (O.cell (p := ⟨B3, 0, none⟩) k8 (no _ h4)).trans k2, (O.cell (p := ⟨B4, 0, none⟩) k9 (no _ h5)).trans k3, (O.frozen (p := ⟨B4, 0, none⟩) k9 (no _ h5)).trans k4, k5.off O (no _ h6), k6.far O (fun r q => .inr ?_), Nat.le_trans k7 O.size, Nat.lt_of_lt_of_le k8 O.size, Nat.lt_of_lt_of_le k9 O.size⟩
  have := (hr r (fz_mem q)).1
  omega
theorem wrap_small (i : Nat) (h : i ≤ 65536) : IntKind.i64.wrap ((i : Int) + 1) = (i : Int) + 1 := by rw [IntKind.wrap_i64]; omega
theorem keeps_off {B : Nat} {bs : List Nat} {W W' : World} (h : Off bs W W') (hb : ∀ k, k ∈ bs → k < B) : KeepsFrom B W W' :=
  ⟨h.size, fun k o hk ho _ => (h.block k (Array.getElem?_eq_some_iff.1 ho).1 (fun q => by have := hb k q; omega)).trans ho⟩
/-- What the drawn region of a round needs. -/
def wrS (d s B3 B4 b off i N C : Nat) (g : Nat → Int) (X : World) : Prop := X.cell? ⟨B3, 0, none⟩ = some (.pointer (some ⟨d, 0, none⟩)) ∧ X.cell? ⟨d, 1, none⟩ = some (.slice (some ⟨s, 0, none⟩) N C) ∧ X.cell? ⟨B4, 0, none⟩ = some (.int .i64 (i : Int)) ∧ X.rangeAt b off (cl .u8 256 g)
theorem wr_step (W V V2 : World) (B d s m B3 B4 b off c a i : Nat) (D E : Dsk) (f : Nat → Int) (pre : List (Fin c)) (x : Fin c) (hp : wrP D a f pre = (i, E)) (hz : W.heap.size + 1 < B) (hs : s < W.heap.size) (hm : m < W.heap.size) (h4 : B4 < W.heap.size)
    (k1 : DiskAt V d s m E) (k2 : V.cell? ⟨B3, 0, none⟩ = some (.pointer (some ⟨d, 0, none⟩))) (k3 : V.cell? ⟨B4, 0, none⟩ = some (.int .i64 (i : Int))) (k4 : V.frozen? ⟨B4, 0, none⟩ = false) (k5 : Lies V b off (c * 256) f) (k6 : Off [s, m, B4] W V) (k7 : B ≤ V.heap.size) (k8 : B3 < V.heap.size) (k9 : B4 < V.heap.size)
    (hi : i < E.N) (g4 : B4 ≠ d ∧ B4 ≠ s ∧ B4 ≠ m) (g3 : B3 ≠ s ∧ B3 ≠ m ∧ B3 ≠ B4) (gb : b ≠ s ∧ b ≠ m ∧ b ≠ B4) (q1 : DiskAt V2 d s m (E.loosen i)) (q2 : Off [m] V V2) :
    ∃ V3, (Instr.storeAt 164 (.pointer (some ⟨s, i * 256, none⟩)) (.agg (cl .u8 256 (fun j => f (x.1 * 256 + j))).toArray)).run Tryz.prog V2.drew = .ok () V3 ∧ wrS d s B3 B4 b (off + x.1 * 256) i E.N E.C (fun j => f (x.1 * 256 + j)) V2.drew ∧ wrS d s B3 B4 b (off + x.1 * 256) i E.N E.C (fun j => f (x.1 * 256 + j)) V3 ∧ V3.cell? ⟨B4, 0, none⟩ = some (.int .i64 (i : Int)) ∧ V3.frozen? ⟨B4, 0, none⟩ = false ∧
      KeepsFrom B V (V3.setCell ⟨B4, 0, none⟩ (.int .i64 ((i : Int) + 1))) ∧ Kc W.heap.size (W.heap.size + 1) V (V3.setCell ⟨B4, 0, none⟩ (.int .i64 ((i : Int) + 1))) ∧ wrI (c := c) W B d s m B3 B4 b off a D f (pre ++ [x]) (V3.setCell ⟨B4, 0, none⟩ (.int .i64 ((i : Int) + 1))) := by
  have p3 := wrP_snoc D a f pre x
  rw [hp] at p3
  have gd := k1.ds
  have gm := k1.dm
  have gbytes : ∀ j, j < 256 → 0 ≤ f (x.1 * 256 + j) ∧ f (x.1 * 256 + j) < 256 := fun j hj => k5.2.1 _ (by have := x.2; omega)
  obtain ⟨V3, hr3, hR3, hB3⟩ := irow_put (fun j => f (x.1 * 256 + j)) q1.drew.row hi
  have D3 := q1.drew.stepped hR3 hB3 gbytes
  have O3 : Off [s, m, B4] V V3 := ((q2.mono (by simp)).drew).trans (Off.but hB3 (by simp))
  have L3 : Lies V3 b off (c * 256) f := k5.off O3 (by simp; omega)
  have e3 : V3.cell? ⟨B3, 0, none⟩ = some (.pointer (some ⟨d, 0, none⟩)) := (O3.cell (p := ⟨B3, 0, none⟩) k8 (by simp; omega)).trans k2
  have O23 : Off [m] V V2.drew := q2.drew
  have a3 : V2.drew.cell? ⟨B3, 0, none⟩ = some (.pointer (some ⟨d, 0, none⟩)) := (O23.cell (p := ⟨B3, 0, none⟩) k8 (by simp; omega)).trans k2
  have a4 : V2.drew.cell? ⟨B4, 0, none⟩ = some (.int .i64 (i : Int)) := (O23.cell (p := ⟨B4, 0, none⟩) k9 (by simp; omega)).trans k3
  have a1 : V2.drew.cell? ⟨d, 1, none⟩ = some (.slice (some ⟨s, 0, none⟩) E.N E.C) := (q1.drew.recd.cel 1 _ rfl).1
  have aL : V2.drew.rangeAt b (off + x.1 * 256) (cl .u8 256 (fun j => f (x.1 * 256 + j))) := fun j v hj => by
    obtain ⟨hk, rfl⟩ := cl_at' hj
    have := (k5.off O23 (by simp; omega)).1 (x.1 * 256 + j) (by have := x.2; omega)
    rw [Nat.add_assoc]
    exact this
  have b4 : V3.cell? ⟨B4, 0, none⟩ = some (.int .i64 (i : Int)) := (hB3.cell (p := ⟨B4, 0, none⟩) (Nat.lt_of_lt_of_le k9 O23.size) g4.2.1).trans a4
  have fr4 : V3.frozen? ⟨B4, 0, none⟩ = false := (hB3.frozen (p := ⟨B4, 0, none⟩) (Nat.lt_of_lt_of_le k9 O23.size) g4.2.1).trans ((O23.frozen (p := ⟨B4, 0, none⟩) k9 (by simp; omega)).trans k4)
  have b1 : V3.cell? ⟨d, 1, none⟩ = some (.slice (some ⟨s, 0, none⟩) E.N E.C) := (D3.recd.cel 1 _ rfl).1
  have bL : V3.rangeAt b (off + x.1 * 256) (cl .u8 256 (fun j => f (x.1 * 256 + j))) := fun j v hj => by
    obtain ⟨hk, rfl⟩ := cl_at' hj
    have := L3.1 (x.1 * 256 + j) (by have := x.2; omega)
    rw [Nat.add_assoc]
    exact this
  have O4 : Off [s, m, B4] V (V3.setCell ⟨B4, 0, none⟩ (.int .i64 ((i : Int) + 1))) := O3.trans (Off.set _ _ _ (by simp))
  refine ⟨V3, hr3, ⟨a3, a1, a4, aL⟩, ⟨e3, b1, b4, bL⟩, b4, fr4, keeps_off O4 (by simp; omega), ⟨O4.cell (p := ⟨W.heap.size, 0, none⟩) (by show W.heap.size < V.heap.size; omega) (by simp; omega), O4.cell (p := ⟨W.heap.size + 1, 0, none⟩) (by show W.heap.size + 1 < V.heap.size; omega) (by simp; omega)⟩, ?_⟩
  have O5 : Off [B4] V3 (V3.setCell ⟨B4, 0, none⟩ (.int .i64 ((i : Int) + 1))) := Off.set _ _ _ (by simp)
  unfold wrI
  rw [p3]
  refine ⟨D3.off O5 (by simp; omega) (by simp; omega) (by simp; omega), (O5.cell (p := ⟨B3, 0, none⟩) (Nat.lt_of_lt_of_le k8 O3.size) (by simp; omega)).trans e3, ?_, by simpa using fr4, L3.off O5 (by simp; omega), k6.trans O4, Nat.le_trans k7 O4.size, Nat.lt_of_lt_of_le k8 O4.size, Nat.lt_of_lt_of_le k9 O4.size⟩
  rw [World.cell?_setCell_same' _ _ _ (by rw [b4]; rfl)]
  rfl
/-- What a round does behind loosen. -/
def RoundOk (W : World) (B d s m B3 B4 b off c a i N C : Nat) (D : Dsk) (f : Nat → Int) (pre : List (Fin c)) (x : Fin c) (V V2 : World) : Prop :=
  ∃ V3, (Instr.storeAt 164 (.pointer (some ⟨s, i * 256, none⟩)) (.agg (cl .u8 256 (fun j => f (x.1 * 256 + j))).toArray)).run Tryz.prog V2.drew = .ok () V3 ∧ wrS d s B3 B4 b (off + x.1 * 256) i N C (fun j => f (x.1 * 256 + j)) V2.drew ∧ wrS d s B3 B4 b (off + x.1 * 256) i N C (fun j => f (x.1 * 256 + j)) V3 ∧ V3.cell? ⟨B4, 0, none⟩ = some (.int .i64 (i : Int)) ∧ V3.frozen? ⟨B4, 0, none⟩ = false ∧
    Hid (KeepsFrom B V (V3.setCell ⟨B4, 0, none⟩ (.int .i64 ((i : Int) + 1))) ∧ Kc W.heap.size (W.heap.size + 1) V (V3.setCell ⟨B4, 0, none⟩ (.int .i64 ((i : Int) + 1))) ∧ wrI (c := c) W B d s m B3 B4 b off a D f (pre ++ [x]) (V3.setCell ⟨B4, 0, none⟩ (.int .i64 ((i : Int) + 1))))
theorem wr_round (W V : World) (B d s m B3 B4 b off c a : Nat) (D : Dsk) (f : Nat → Int) (pre : List (Fin c)) (x : Fin c) (hI : wrI (c := c) W B d s m B3 B4 b off a D f pre V) (hlt : pre.length < c) (ha : a + c ≤ D.N) (hN : D.N ≤ 65536) (hz : W.heap.size + 1 < B) (hs : s < W.heap.size) (hm : m < W.heap.size) (h4 : B4 < W.heap.size)
    (n3 : B3 ∉ [s, m, B4]) (n4 : B4 ∉ [d, s, m]) (nb : b ∉ [s, m, B4]) :
    ∃ i N C : Nat, V.cell? ⟨B3, 0, none⟩ = some (.pointer (some ⟨d, 0, none⟩)) ∧ V.cell? ⟨B4, 0, none⟩ = some (.int .i64 (i : Int)) ∧ (0 : Int) ≤ i ∧ (i : Int) < N ∧ wrap64 ((i : Int) + 1) = (i : Int) + 1 ∧ IntKind.i64.wrap ((i : Int) + 1) = (i : Int) + 1 ∧ Hid (Calls Tryz.prog 177 #[.pointer (some ⟨d, 0, none⟩), .int .i64 (i : Int)] V fun e V2 => e = .returned (.tuple #[]) ∧ RoundOk W B d s m B3 B4 b off c a i N C D f pre x V V2) := by
  obtain ⟨k1, k2, k3, k4, k5, k6, k7, k8, k9⟩ := hI
  obtain ⟨p1, p2⟩ := wrP_one f pre D a
  obtain ⟨i, E, hp⟩ : ∃ i E, wrP D a f pre = (i, E) := ⟨_, _, rfl⟩
  rw [hp] at k1 k3 p1 p2
  dsimp only at k1 k3 p1 p2
  have hi : i < E.N := by omega
  refine ⟨i, E.N, E.C, k2, k3, by omega, by omega, by unfold wrap64; omega, wrap_small i (by omega), (loosen_ok V d s m i E k1 hi).mono ?_⟩
  rintro e V2 ⟨rfl, q1, q2⟩
  obtain ⟨V3, r1, r2, r3, r4, r5, r6, r7, r8⟩ := wr_step W V V2 B d s m B3 B4 b off c a i D E f pre x hp hz hs hm h4 k1 k2 k3 k4 k5 k6 k7 k8 k9 hi (by simpa using n4) (by simpa using n3) (by simpa using nb) q1 q2
  exact ⟨rfl, V3, r1, r2, r3, r4, r5, r6, r7, r8⟩
set_option maxRecDepth 100000 in
set_option maxHeartbeats 400000 in
theorem write1_ok (W : World) (d s m B3 B4 B5 b off c C a : Nat) (D : Dsk) (f : Nat → Int) (h : DiskAt W d s m D) (c5 : W.cell? ⟨B5, 0, none⟩ = some (.slice (some ⟨b, off, none⟩) (c * 256) C)) (c3 : W.cell? ⟨B3, 0, none⟩ = some (.pointer (some ⟨d, 0, none⟩))) (c4 : W.cell? ⟨B4, 0, none⟩ = some (.int .i64 (a : Int))) (f4 : W.frozen? ⟨B4, 0, none⟩ = false)
    (hL : Lies W b off (c * 256) f) (hc : c ≤ 80) (hC : c * 256 ≤ C) (ha : a + c ≤ D.N) (l3 : B3 < W.heap.size) (l4 : B4 < W.heap.size) (n3 : B3 ∉ [s, m, B4]) (n4 : B4 ∉ [d, s, m]) (nb : b ∉ [s, m, B4]) :
    Calls Tryz.prog 175 #[.pointer (some ⟨B5, 0, none⟩), .pointer (some ⟨B3, 0, none⟩), .pointer (some ⟨B4, 0, none⟩)] W fun e w' => e = .returned (.tuple #[]) ∧ DiskAt w' d s m (D.wrote a f c) ∧ Off [s, m, B4] W w' := by
  refine (callsIn_wide (n := 5)).1 ?_
  have HD : Hid (DiskAt W d s m D) := h
  have HL : Hid (Lies W b off (c * 256) f) := hL
  have h2 := h.n2
  have dl := h.dl
  have sl := h.sl
  have ml := h.ml
  have bl := hL.2.2
  have n3' : Hid (B3 ∉ [s, m, B4]) := n3
  have n4' : Hid (B4 ∉ [d, s, m]) := n4
  have nb' : Hid (b ∉ [s, m, B4]) := nb
  clear h hL n3 n4 nb
  refine callsIn_of_wp_marks Tryz.func175 rfl trivial ?_ rfl
  simp only [Tryz.ntmps175, List.size_toArray, List.length_cons, List.length_nil, Nat.reduceAdd, Nat.reduceSub, Array.replicate_succ, Array.replicate_zero, List.push_toArray, List.append_toArray, List.nil_append, List.cons_append]
  gi_wp2
  refine ⟨trivial, ?_⟩
  refine (chunk_in Fence.wide 4 trivial rfl _ _ _ _).mono ?_
  rintro e w' ⟨rfl, rfl⟩
  gi_wp2
  have bS : ((W.alloc (.cells #[.slice (some ⟨b, off, none⟩) (c * 256) C] 23)).alloc (.cells #[.int .i64 256] 3)).cell? ⟨W.heap.size, 0, none⟩ = some (.slice (some ⟨b, off, none⟩) (c * 256) C) := by simp [go_sem]
  have bN : ((W.alloc (.cells #[.slice (some ⟨b, off, none⟩) (c * 256) C] 23)).alloc (.cells #[.int .i64 256] 3)).cell? ⟨W.heap.size + 1, 0, none⟩ = some (.int .i64 256) := by simp [go_sem]
  have hz1 : ((W.alloc (.cells #[.slice (some ⟨b, off, none⟩) (c * 256) C] 23)).alloc (.cells #[.int .i64 256] 3)).heap.size = W.heap.size + 1 + 1 := by simp
  have hB1 : Below W.heap.size W ((W.alloc (.cells #[.slice (some ⟨b, off, none⟩) (c * 256) C] 23)).alloc (.cells #[.int .i64 256] 3)) := ((Below.refl _ _).alloc (Nat.le_refl _) _).alloc (by simp) _
  generalize ((W.alloc (.cells #[.slice (some ⟨b, off, none⟩) (c * 256) C] 23)).alloc (.cells #[.int .i64 256] 3)) = W1 at bS bN hz1 hB1 ⊢
  have SQ := chunk_stops Fence.wide 4 trivial rfl (by omega) W.heap.size (W.heap.size + 1) b off c C hc hC W1 (by omega) (by omega) bS bN
  have KB : ∀ (V : World) (l : Nat) (o o' : Obj), W1.heap.size ≤ l → V.heap[l]? = some o → o.isCells = false → o.isWalk = false → Kc W.heap.size (W.heap.size + 1) V (V.putObj l o') := fun V l o o' hl _ _ _ => ⟨World.cell?_of_block (World.putObj_heap_other (by show W.heap.size ≠ l; omega)), World.cell?_of_block (World.putObj_heap_other (by show W.heap.size + 1 ≠ l; omega))⟩
  have HI := wrI_own (c := c) W W1.heap.size d s m B3 B4 b off a D f (by omega) (by omega) (by omega) (by omega) (by omega) (by omega) (by omega)
  have H0 : wrI (c := c) W W1.heap.size d s m B3 B4 b off a D f [] W1 := ⟨HD.out.below hB1, (hB1.cell (p := ⟨B3, 0, none⟩) l3).trans c3, (hB1.cell (p := ⟨B4, 0, none⟩) l4).trans c4, (hB1.frozen (p := ⟨B4, 0, none⟩) l4).trans f4, HL.out.below hB1, Off.of hB1, Nat.le_refl _, by omega, by omega⟩
  refine wpIn_rangeFunc_ownG rfl (by decide) (gf := 201) (lb := #[.pointer (some ⟨W.heap.size, 0, none⟩), .pointer (some ⟨W.heap.size + 1, 0, none⟩)]) rfl trivial (enters_of Tryz.func201 (by kernel_rfl) rfl)
    SQ Kc.trans KB (Below.refl _ _) (fun _ => rfl) (wrI (c := c) W W1.heap.size d s m B3 B4 b off a D f) (fun _ _ _ => False) HI (fun _ _ _ _ _ hs _ _ => hs) H0
    (fun x => { tmps := #[.pointer (some ⟨B5, 0, none⟩), .pointer (some ⟨B3, 0, none⟩), .pointer (some ⟨B4, 0, none⟩), .slice (some ⟨b, off + x.1 * 256, none⟩) 256 256, .slice (some ⟨b, off, none⟩) (c * 256) C, .func (.func 201) #[] #[.pointer (some ⟨W.heap.size, 0, none⟩), .pointer (some ⟨W.heap.size + 1, 0, none⟩)], .slice (some ⟨b, off + x.1 * 256, none⟩) 256 256, undef, undef, undef, undef, undef, undef, undef, undef, undef, undef, undef, undef, undef, undef], defers := [] }) ?assign ?body ?done ?stop
  case assign =>
    intro l x V K hK
    gi_wp2
    exact hK
  case body =>
    intro l pre x V hI hlt
    obtain ⟨i, N, CC, k2, k3, i0, i1, w1', w2', LO⟩ := wr_round W V W1.heap.size d s m B3 B4 b off c a D f pre x hI hlt ha h2 (by omega) sl ml l4 n3'.out n4'.out nb'.out
    clear hI SQ KB HI H0 bS bN hB1
    gi_wp2
    refine ⟨trivial, ?_⟩
    refine (CallsIn.inRound l ((callsIn_wide (n := _)).2 LO.out)).mono ?_
    rintro e V2 ⟨rfl, V3, hr3, s2, s3, b4, fr4, PP⟩
    clear LO
    gi_wp2
    refine region_in (S := wrS d s B3 B4 b (off + x.1 * 256) i N CC (fun j => f (x.1 * 256 + j))) (by kernel_rfl) (by kernel_rfl) s2 (fun hHeld => ?_)
    refine take_at (i := 0) (v := ?_) (some 10) rfl rfl (by kernel_rfl) (by kernel_rfl) (by kernel_rfl) (fun _ _ _ h => by cases h.1) (Or.inl ⟨by rfl, ?_⟩) (by assumption) ?_
    rotate_left
    · (intro w hSw; (try dsimp only at hSw); obtain ⟨q1, q2, q3, q4⟩ := hSw; clear q4; go_simp; try with_reducible rfl)
    simp only [Act.put, List.setIfInBounds_toArray, List.set_cons_zero, List.set_cons_succ]
    refine take_at (i := 1) (v := ?_) (some 11) rfl rfl (by kernel_rfl) (by kernel_rfl) (by kernel_rfl) (fun _ _ _ h => by cases h.1) (Or.inl ⟨by rfl, ?_⟩) (by assumption) ?_
    rotate_left
    · (intro w hSw; (try dsimp only at hSw); obtain ⟨q1, q2, q3, q4⟩ := hSw; clear q4; go_simp; try with_reducible rfl)
    simp only [Act.put, List.setIfInBounds_toArray, List.set_cons_zero, List.set_cons_succ]
    refine take_at (i := 2) (v := ?_) (some 12) rfl rfl (by kernel_rfl) (by kernel_rfl) (by kernel_rfl) (fun _ _ _ h => by cases h.1) (Or.inl ⟨by rfl, ?_⟩) (by assumption) ?_
    rotate_left
    · (intro w hSw; (try dsimp only at hSw); obtain ⟨q1, q2, q3, q4⟩ := hSw; clear q4; go_simp; try with_reducible rfl)
    simp only [Act.put, List.setIfInBounds_toArray, List.set_cons_zero, List.set_cons_succ]
    refine take_at (i := 3) (v := ?_) (some 13) rfl rfl (by kernel_rfl) (by kernel_rfl) (by kernel_rfl) (fun _ _ _ h => by cases h.1) (Or.inl ⟨by rfl, ?_⟩) (by assumption) ?_
    rotate_left
    · (intro w hSw; (try dsimp only at hSw); obtain ⟨q1, q2, q3, q4⟩ := hSw; clear q4; go_simp; try with_reducible rfl)
    simp only [Act.put, List.setIfInBounds_toArray, List.set_cons_zero, List.set_cons_succ]
    refine take_at (i := 4) (v := ?_) (some 14) rfl rfl (by kernel_rfl) (by kernel_rfl) (by kernel_rfl) (fun _ _ _ h => by cases h.1) (Or.inl ⟨by rfl, ?_⟩) (by assumption) ?_
    rotate_left
    · (intro w hSw; (try dsimp only at hSw); obtain ⟨q1, q2, q3, q4⟩ := hSw; clear q4; go_simp; try with_reducible rfl)
    simp only [Act.put, List.setIfInBounds_toArray, List.set_cons_zero, List.set_cons_succ]
    refine take_at (i := 5) (v := ?_) (some 15) rfl rfl (by kernel_rfl) (by kernel_rfl) (by kernel_rfl) (fun _ _ _ h => by cases h.1) (Or.inl ⟨by rfl, ?_⟩) (by assumption) ?_
    rotate_left
    · (intro w hSw; (try dsimp only at hSw); obtain ⟨q1, q2, q3, q4⟩ := hSw; clear q4; go_simp; try with_reducible rfl)
    simp only [Act.put, List.setIfInBounds_toArray, List.set_cons_zero, List.set_cons_succ]
    refine take_at (i := 6) (v := (.pointer (some ⟨b, off + x.1 * 256, none⟩))) (some 16) rfl rfl (by kernel_rfl) (by kernel_rfl) (by kernel_rfl) (fun _ _ _ h => by cases h.1) (Or.inl ⟨by rfl, fun w _ => arr_run (.tmp 15) rfl _ 256 rfl⟩) (by assumption) ?_
    simp only [Act.put, List.setIfInBounds_toArray, List.set_cons_zero, List.set_cons_succ]
    refine take_at (i := 7) (v := _) (some 17) rfl rfl (by kernel_rfl) (by kernel_rfl) (by kernel_rfl) (fun _ _ _ h => by cases h.1) (yieldsIf_load_mid (by rfl) 164 (.tmp 16) rfl b (off + x.1 * 256) rfl (cl .u8 256 (fun j => f (x.1 * 256 + j))) _ (fun _ h => h.2.2.2) Tryz.underlying164 rfl (by rw [cl_len]; kernel_rfl)) (by assumption) ?_
    simp only [Act.put, List.setIfInBounds_toArray, List.set_cons_zero, List.set_cons_succ]
    refine take_at (i := 8) (v := ?_) (some 18) rfl rfl (by kernel_rfl) (by kernel_rfl) (by kernel_rfl) (fun _ _ _ h => by cases h.1) (Or.inl ⟨by rfl, ?_⟩) (by assumption) ?_
    rotate_left
    · (intro w hSw; (try dsimp only at hSw); obtain ⟨q1, q2, q3, q4⟩ := hSw; clear q4; go_simp; try with_reducible rfl)
    simp only [Act.put, List.setIfInBounds_toArray, List.set_cons_zero, List.set_cons_succ]
    refine skip_at (i := 9) none rfl rfl (by rfl) (by kernel_rfl) V3 (store_skip 164 (.tmp 18) (.tmp 17) rfl _ _ rfl rfl hr3) s3 (fun hHeld => ?_)
    simp only [Act.put]
    refine wpAnyH_done (by kernel_rfl) ?_ _
    refine ⟨rfl, ?_⟩
    gi_wp2
    exact ⟨PP.out.1, PP.out.2.1, PP.out.2.2⟩
  case done =>
    rintro D2 ys V hD2 rfl hI hK
    obtain ⟨k1, k2, k3, k4, k5, k6, k7, k8, k9⟩ := HI.putObj (.deferred none) hI hD2 hK rfl
    rw [wrP_all D a f c (Nat.le_refl _)] at k1
    gi_wp2
    refine ⟨by simp, .inl ⟨_, _, rfl, run_takeDeferred hK, ?_⟩⟩
    refine ⟨.tuple #[], by simp [results, Tryz.results175], rfl, k1, k6⟩
  case stop =>
    rintro D2 c2 pre V _ _ h _
    exact h.elim
end Go.Proofs.YtblphlcnbnklmaaGreatDoor
namespace Go.Proofs.YtblphlcnbnklmaaGreatDoor
open Go.RowKit Go.Maps
/-- What a Write that is done leaves. -/
def WrotePost (W : World) (d s m : Nat) (D D' : Dsk) (l : Int) (o : Bool) (bs : List Nat) (e : Ending) (w' : World) : Prop := e = .returned (.int .i64 0) ∧ DiskAt w' d s m D' ∧ FuseIs w' D.fz (fzLeft D.fz l) o ∧ Off (bs ++ D.fz.toList) W w'
theorem far_mem {d s m B x h : Nat} {fz : Option Nat} (q : x ∈ [d, s, m, B] ++ fz.toList) (hB : h ≤ B) : x ∈ [d, s, m] ++ fz.toList ∨ h ≤ x := by
  rw [List.mem_append] at q
  rcases q with q | q
  · have q' : x = d ∨ x = s ∨ x = m ∨ x = B := by simpa using q
    rcases q' with rfl | rfl | rfl | rfl
    · exact .inl (List.mem_append_left _ (by simp))
    · exact .inl (List.mem_append_left _ (by simp))
    · exact .inl (List.mem_append_left _ (by simp))
    · exact .inr hB
  · exact .inl (List.mem_append_right _ q)
theorem changeW_blow (W : World) (d s m : Nat) (cb : Array Value) (D : Dsk) (l : Int) (o : Bool) (h : DiskAt W d s m D) (hf : FuseIs W D.fz l o) (hq : FzOk D d s m) (hp : fzPass D.fz l = false) :
    Calls Tryz.prog 174 #[.pointer (some ⟨d, 0, none⟩), .func (.func 175) #[] cb] W (BlowPost W d s m D l) := by
  obtain ⟨c4, _⟩ := h.recd.cel 4 _ rfl
  have SP : Hid (∀ w1, FuseIs w1 D.fz (fzLeft D.fz l) (fzOut D.fz l o) → Off D.fz.toList W w1 → BlowPost W d s m D l (.returned (.int .i64 11)) w1) := fun w1 h1 h2 => stop_post h hq hp h1 h2
  have HF : Hid (FuseIs W D.fz l o) := hf
  have HP : Hid (fzPass D.fz l = false) := hp
  clear h hf hq hp
  go_enter Tryz.func174, Tryz.ntmps174
  go_wp2_with (go_at_call 200; refine (pass_any _ D.fz l o HF.out).mono ?_; rintro e w1 ⟨rfl, h1, h2⟩; rw [HP.out]; have PP : Hid (BlowPost W d s m D l (.returned (.int .i64 11)) w1) := SP.out w1 h1 h2; clear h1 h2)
  go_ret
  exact PP.out
/-- What the closure is handed. -/
structure WrArg (W : World) (d s m B3 B4 B5 b off c C a : Nat) (D : Dsk) (f : Nat → Int) : Prop where
  c5 : W.cell? ⟨B5, 0, none⟩ = some (.slice (some ⟨b, off, none⟩) (c * 256) C)
  c3 : W.cell? ⟨B3, 0, none⟩ = some (.pointer (some ⟨d, 0, none⟩))
  c4 : W.cell? ⟨B4, 0, none⟩ = some (.int .i64 (a : Int))
  f4 : W.frozen? ⟨B4, 0, none⟩ = false
  hL : Lies W b off (c * 256) f
  hc : c ≤ 80
  hC : c * 256 ≤ C
  ha : a + c ≤ D.N
  l3 : B3 < W.heap.size
  l4 : B4 < W.heap.size
  l5 : B5 < W.heap.size
  n3 : B3 ∉ [s, m, B4]
  n4 : B4 ∉ [d, s, m]
  nb : b ∉ [s, m, B4]
theorem WrArg.past {W W1 : World} {d s m B3 B4 B5 b off c C a : Nat} {D : Dsk} {f : Nat → Int} (h : WrArg W d s m B3 B4 B5 b off c C a D f) (hO : Off D.fz.toList W W1) (hq : ∀ q, D.fz = some q → q ≠ B3 ∧ q ≠ B4 ∧ q ≠ B5 ∧ q ≠ b) : WrArg W1 d s m B3 B4 B5 b off c C a D f :=
  { h with
    c5 := (hO.cell (p := ⟨B5, 0, none⟩) h.l5 (fun q => (hq _ (fz_mem q)).2.2.1 rfl)).trans h.c5
    c3 := (hO.cell (p := ⟨B3, 0, none⟩) h.l3 (fun q => (hq _ (fz_mem q)).1 rfl)).trans h.c3
    c4 := (hO.cell (p := ⟨B4, 0, none⟩) h.l4 (fun q => (hq _ (fz_mem q)).2.1 rfl)).trans h.c4
    f4 := (hO.frozen (p := ⟨B4, 0, none⟩) h.l4 (fun q => (hq _ (fz_mem q)).2.1 rfl)).trans h.f4
    hL := h.hL.off hO (fun q => (hq _ (fz_mem q)).2.2.2 rfl)
    l3 := Nat.lt_of_lt_of_le h.l3 hO.size
    l4 := Nat.lt_of_lt_of_le h.l4 hO.size
    l5 := Nat.lt_of_lt_of_le h.l5 hO.size }
theorem changeW_ok (W : World) (d s m B3 B4 B5 b off c C a : Nat) (D : Dsk) (f : Nat → Int) (l : Int) (o : Bool) (h : DiskAt W d s m D) (hf : FuseIs W D.fz l o) (hq : FzOk D d s m) (hp : fzPass D.fz l = true)
    (hw : WrArg W d s m B3 B4 B5 b off c C a D f) (hBq : ∀ q, D.fz = some q → q ≠ B3 ∧ q ≠ B4 ∧ q ≠ B5 ∧ q ≠ b) (ho : 0 ≤ D.ops ∧ D.ops ≤ 1000000) :
    Calls Tryz.prog 174 #[.pointer (some ⟨d, 0, none⟩), .func (.func 175) #[] #[.pointer (some ⟨B5, 0, none⟩), .pointer (some ⟨B3, 0, none⟩), .pointer (some ⟨B4, 0, none⟩)]] W (WrotePost W d s m D (D.wrote a f c).more l o [d, s, m, B4]) := by
  obtain ⟨c4, _⟩ := h.recd.cel 4 _ rfl
  have HD : Hid (DiskAt W d s m D) := h
  have HQ : Hid (FzOk D d s m) := hq
  have HF : Hid (FuseIs W D.fz l o) := hf
  have HP : Hid (fzPass D.fz l = true) := hp
  have HW : Hid (WrArg W d s m B3 B4 B5 b off c C a D f) := hw
  have HBQ : Hid (∀ q, D.fz = some q → q ≠ B3 ∧ q ≠ B4 ∧ q ≠ B5 ∧ q ≠ b) := hBq
  have w1' : wrap64 (D.ops + 1) = D.ops + 1 := by unfold wrap64; omega
  have w2' : IntKind.i64.wrap (D.ops + 1) = D.ops + 1 := by rw [IntKind.wrap_i64]; omega
  clear h hf hq hp hw hBq
  go_enter Tryz.func174, Tryz.ntmps174
  go_wp2_with (first
    | (go_at_call 200; refine (pass_any _ D.fz l o HF.out).mono ?_; rintro e w1 ⟨rfl, h1, h2⟩; rw [HP.out]; rw [fzOut_pass HP.out] at h1
       have F1 : Hid (FuseIs w1 D.fz (fzLeft D.fz l) o) := h1
       have O1 : Hid (Off D.fz.toList W w1) := h2
       have W1 : Hid (WrArg w1 d s m B3 B4 B5 b off c C a D f) := HW.out.past h2 HBQ.out
       clear h1 h2)
    | (go_at_call 175; refine (write1_ok _ d s m B3 B4 B5 b off c C a D f (HD.out.past O1.out HQ.out) W1.out.c5 W1.out.c3 W1.out.c4 W1.out.f4 W1.out.hL W1.out.hc W1.out.hC W1.out.ha W1.out.l3 W1.out.l4 W1.out.n3 W1.out.n4 W1.out.nb).mono ?_; rintro e w2 ⟨rfl, h1, h2⟩
       obtain ⟨c3, f3⟩ := h1.recd.cel 3 _ rfl
       have c3' : w2.cell? ⟨d, 3, none⟩ = some (.int .i64 D.ops) := by rw [c3, Dsk.wrote_ops]
       have PP : Hid (WrotePost W d s m D (D.wrote a f c).more l o [d, s, m, B4] (.returned (.int .i64 0)) (w2.setCell ⟨d, 3, none⟩ (.int .i64 (D.ops + 1)))) := by
         have O3 : Off [d, s, m, B4] w1 (w2.setCell ⟨d, 3, none⟩ (.int .i64 (D.ops + 1))) := (h2.mono (fun x q => List.mem_cons_of_mem _ q)).trans (Off.set _ _ _ (by simp))
         have b1 := h1.bump
         rw [Dsk.wrote_ops] at b1
         exact ⟨rfl, b1, F1.out.off O3 (fun q hq => by have g1 := HQ.out q hq; have g2 := HBQ.out q hq; simp; omega), (O1.out.mono (fun _ q => List.mem_append_right _ q)).trans (O3.mono (fun _ q => List.mem_append_left _ q))⟩
       clear h1 h2 c3 O1 F1))
  go_ret
  exact PP.out
/-- The world in which Write has its arguments in boxes. -/
def boxW (W : World) (d : Nat) (x : Int) (v : Value) : World := ((W.alloc (.cells #[.pointer (some ⟨d, 0, none⟩)] 45)).alloc (.cells #[.int .i64 x] 3)).alloc (.cells #[v] 23)
theorem boxW_below (W : World) (d : Nat) (x : Int) (v : Value) : Below W.heap.size W (boxW W d x v) := (((Below.refl _ _).alloc (Nat.le_refl _) _).alloc (by simp) _).alloc (by simp; omega) _
theorem boxW_size (W : World) (d : Nat) (x : Int) (v : Value) : (boxW W d x v).heap.size = W.heap.size + 1 + 1 + 1 := by simp [boxW]
theorem write_down (W : World) (d s m : Nat) (D : Dsk) (l : Int) (o : Bool) (x : Int) (p : Option Addr) (n C : Nat) (h : DiskAt W d s m D) (hf : FuseIs W D.fz l o) (hu : D.up o = false) :
    Calls Tryz.prog 123 #[.pointer (some ⟨d, 0, none⟩), .int .i64 x, .slice p n C] W fun e w' => e = .returned (.int .i64 11) ∧ Below W.heap.size W w' := by
  have HD : Hid (DiskAt (boxW W d x (.slice p n C)) d s m D) := h.below (boxW_below _ _ _ _)
  have HF : Hid (FuseIs (boxW W d x (.slice p n C)) D.fz l o) := hf.below (boxW_below _ _ _ _)
  have BB : Hid (Below W.heap.size W (boxW W d x (.slice p n C))) := boxW_below _ _ _ _
  have HU : Hid (D.up o = false) := hu
  unfold boxW at HD HF BB
  clear h hf hu
  go_enter Tryz.func123, Tryz.ntmps123
  go_wp2_with (go_at_call 93; refine (ready_ok _ d s m D l o HD.out HF.out).mono ?_; rintro e w1 ⟨rfl, rfl⟩; rw [HU.out, if_neg (by simp)])
  go_ret
  exact ⟨rfl, BB.out⟩
theorem write_arg (W : World) (d s m : Nat) (D : Dsk) (l : Int) (o : Bool) (x : Int) (p : Option Addr) (n C : Nat) (h : DiskAt W d s m D) (hf : FuseIs W D.fz l o) (hu : D.up o = true) (hn : n = 0 ∨ n % 256 ≠ 0) :
    Calls Tryz.prog 123 #[.pointer (some ⟨d, 0, none⟩), .int .i64 x, .slice p n C] W fun e w' => e = .returned (.int .i64 2) ∧ Below W.heap.size W w' := by
  have HD : Hid (DiskAt (boxW W d x (.slice p n C)) d s m D) := h.below (boxW_below _ _ _ _)
  have HF : Hid (FuseIs (boxW W d x (.slice p n C)) D.fz l o) := hf.below (boxW_below _ _ _ _)
  have BB : Hid (Below W.heap.size W (boxW W d x (.slice p n C))) := boxW_below _ _ _ _
  have HU : Hid (D.up o = true) := hu
  unfold boxW at HD HF BB
  clear h hf hu
  by_cases z : n = 0
  · subst z
    clear hn
    go_enter Tryz.func123, Tryz.ntmps123
    go_wp2_with (go_at_call 93; refine (ready_ok _ d s m D l o HD.out HF.out).mono ?_; rintro e w1 ⟨rfl, rfl⟩; rw [HU.out, if_pos rfl])
    go_ret
    exact ⟨rfl, BB.out⟩
  · have e1 : ¬ (n : Int) = 0 := by omega
    have e2 : ((n : Int).tmod 256 != 0) = true := by rw [Int.tmod_eq_emod_of_nonneg (by omega)]; simp; omega
    have e3 : ((n : Int) % 256 != 0) = true := by simp; omega
    have e5 : ((n : Int) == 0) = false := by simp; omega
    clear hn
    go_enter Tryz.func123, Tryz.ntmps123
    go_wp2_with (go_at_call 93; refine (ready_ok _ d s m D l o HD.out HF.out).mono ?_; rintro e w1 ⟨rfl, rfl⟩; rw [HU.out, if_pos rfl])
    go_ret
    exact ⟨rfl, BB.out⟩
theorem boxW_arg (W : World) (d s m a b off c C : Nat) (D : Dsk) (f : Nat → Int) (h : DiskAt W d s m D) (hL : Lies W b off (c * 256) f) (hc : c ≤ 80) (hC : c * 256 ≤ C) (ha : a + c ≤ D.N) (hb : b ≠ s ∧ b ≠ m) :
    WrArg (boxW W d a (.slice (some ⟨b, off, none⟩) (c * 256) C)) d s m W.heap.size (W.heap.size + 1) (W.heap.size + 1 + 1) b off c C a D f := by
  have dl := h.dl
  have sl := h.sl
  have ml := h.ml
  have bl := hL.2.2
  have z := boxW_size W d a (.slice (some ⟨b, off, none⟩) (c * 256) C)
  refine ⟨by simp [boxW, go_sem], by simp [boxW, go_sem], by simp [boxW, go_sem], by simp [boxW, go_sem], hL.below (boxW_below _ _ _ _), hc, hC, ha, by omega, by omega, by omega, by simp; omega, by simp; omega, by simp; omega⟩
set_option maxRecDepth 100000 in
theorem write_ok (W : World) (d s m a b off c C : Nat) (D : Dsk) (f : Nat → Int) (l : Int) (o : Bool) (h : DiskAt W d s m D) (hf : FuseIs W D.fz l o) (hq : FzOk D d s m) (hu : D.up o = true) (hp : fzPass D.fz l = true) (hL : Lies W b off (c * 256) f) (hc1 : 1 ≤ c) (hc : c ≤ 80) (hC : c * 256 ≤ C) (ha : a + c ≤ D.N) (hb : b ≠ s ∧ b ≠ m)
    (hql : ∀ q, D.fz = some q → q < W.heap.size ∧ q ≠ b) (ho : 0 ≤ D.ops ∧ D.ops ≤ 1000000) :
    Calls Tryz.prog 123 #[.pointer (some ⟨d, 0, none⟩), .int .i64 (a : Int), .slice (some ⟨b, off, none⟩) (c * 256) C] W (WrotePost W d s m D (D.wrote a f c).more l o [d, s, m]) := by
  have HD : Hid (DiskAt (boxW W d a (.slice (some ⟨b, off, none⟩) (c * 256) C)) d s m D) := h.below (boxW_below _ _ _ _)
  have HF : Hid (FuseIs (boxW W d a (.slice (some ⟨b, off, none⟩) (c * 256) C)) D.fz l o) := hf.below (boxW_below _ _ _ _)
  have BB : Hid (Below W.heap.size W (boxW W d a (.slice (some ⟨b, off, none⟩) (c * 256) C))) := boxW_below _ _ _ _
  have WA : Hid (WrArg (boxW W d a (.slice (some ⟨b, off, none⟩) (c * 256) C)) d s m W.heap.size (W.heap.size + 1) (W.heap.size + 1 + 1) b off c C a D f) := boxW_arg W d s m a b off c C D f h hL hc hC ha hb
  have HU : Hid (D.up o = true) := hu
  have n2 := h.n2
  have HH : Hid (hasB D.N a c = true) := by show hasB D.N a c = true; unfold hasB; simp; omega
  have QQ : Hid (∀ q, D.fz = some q → q ≠ W.heap.size ∧ q ≠ W.heap.size + 1 ∧ q ≠ W.heap.size + 1 + 1 ∧ q ≠ b) := fun q e => by have := hql q e; omega
  have e1 : ¬ (c : Int) * 256 = 0 := by omega
  have e2 : ((c : Int) * 256).tmod 256 = 0 := Int.mul_tmod_left _ _
  have e3 : ((c : Int) * 256).tdiv 256 = c := Int.mul_tdiv_cancel _ (by decide)
  have e4 : ¬ c = 0 := by omega
  unfold boxW at HD HF BB WA
  clear h hf hu hL hql
  go_enter Tryz.func123, Tryz.ntmps123
  go_wp2_with (first
    | (go_at_call 93; refine (ready_ok _ d s m D l o HD.out HF.out).mono ?_; rintro e w1 ⟨rfl, rfl⟩; rw [HU.out, if_pos rfl])
    | (go_at_call 94; refine (has_ok _ d s m D a c HD.out (by omega)).mono ?_; rintro e w1 ⟨rfl, rfl⟩; rw [HH.out])
    | (go_at_call 174; refine (changeW_ok _ d s m W.heap.size (W.heap.size + 1) (W.heap.size + 1 + 1) b off c C a D f l o HD.out HF.out hq hp WA.out QQ.out ho).mono ?_; rintro e w2 ⟨rfl, h1, h2, h3⟩
       have PP : Hid (WrotePost W d s m D (D.wrote a f c).more l o [d, s, m] (.returned (.int .i64 0)) w2) := ⟨rfl, h1, h2, (Off.of BB.out).far h3 (fun x q => far_mem q (by omega))⟩
       clear h1 h2 h3))
  go_ret
  exact PP.out
end Go.Proofs.YtblphlcnbnklmaaGreatDoor
namespace Go.Proofs.YtblphlcnbnklmaaGreatDoor
open Go.RowKit Go.Maps
set_option maxRecDepth 100000 in
theorem write_range (W : World) (d s m : Nat) (D : Dsk) (l : Int) (o : Bool) (x : Int) (p : Option Addr) (c C : Nat) (h : DiskAt W d s m D) (hf : FuseIs W D.fz l o) (hu : D.up o = true) (hc : 1 ≤ c) (hc8 : c ≤ 80) (hx : x < 9223372036854775808) (hh : hasB D.N x c = false) :
    Calls Tryz.prog 123 #[.pointer (some ⟨d, 0, none⟩), .int .i64 x, .slice p (c * 256) C] W fun e w' => e = .returned (.int .i64 5) ∧ Below W.heap.size W w' := by
  have HD : Hid (DiskAt (boxW W d x (.slice p (c * 256) C)) d s m D) := h.below (boxW_below _ _ _ _)
  have HF : Hid (FuseIs (boxW W d x (.slice p (c * 256) C)) D.fz l o) := hf.below (boxW_below _ _ _ _)
  have BB : Hid (Below W.heap.size W (boxW W d x (.slice p (c * 256) C))) := boxW_below _ _ _ _
  have HU : Hid (D.up o = true) := hu
  have HH : Hid (hasB D.N x c = false) := hh
  have e1 : ¬ (c : Int) * 256 = 0 := by omega
  have e2 : ((c : Int) * 256).tmod 256 = 0 := Int.mul_tmod_left _ _
  have e3 : ((c : Int) * 256).tdiv 256 = c := Int.mul_tdiv_cancel _ (by decide)
  have e4 : ¬ c = 0 := by omega
  have e5 : wrap64 (c : Int) = c := by unfold wrap64; omega
  have e6 : IntKind.i64.wrap (c : Int) = c := by rw [IntKind.wrap_i64]; omega
  unfold boxW at HD HF BB
  clear h hf hu hh
  go_enter Tryz.func123, Tryz.ntmps123
  go_wp2_with (first
    | (go_at_call 93; refine (ready_ok _ d s m D l o HD.out HF.out).mono ?_; rintro e w1 ⟨rfl, rfl⟩; rw [HU.out, if_pos rfl])
    | (go_at_call 94; refine (has_ok _ d s m D x c HD.out hx).mono ?_; rintro e w1 ⟨rfl, rfl⟩; rw [HH.out]))
  go_ret
  exact ⟨rfl, BB.out⟩
set_option maxRecDepth 100000 in
theorem write_blow (W : World) (d s m : Nat) (D : Dsk) (l : Int) (o : Bool) (x : Int) (p : Option Addr) (c C : Nat) (h : DiskAt W d s m D) (hf : FuseIs W D.fz l o) (hq : FzOk D d s m) (hu : D.up o = true) (hp : fzPass D.fz l = false) (hc : 1 ≤ c) (hc8 : c ≤ 80) (hx : x < 9223372036854775808) (hh : hasB D.N x c = true) :
    Calls Tryz.prog 123 #[.pointer (some ⟨d, 0, none⟩), .int .i64 x, .slice p (c * 256) C] W (BlowPost W d s m D l) := by
  have HD : Hid (DiskAt (boxW W d x (.slice p (c * 256) C)) d s m D) := h.below (boxW_below _ _ _ _)
  have HF : Hid (FuseIs (boxW W d x (.slice p (c * 256) C)) D.fz l o) := hf.below (boxW_below _ _ _ _)
  have BB : Hid (Below W.heap.size W (boxW W d x (.slice p (c * 256) C))) := boxW_below _ _ _ _
  have HU : Hid (D.up o = true) := hu
  have HH : Hid (hasB D.N x c = true) := hh
  have e1 : ¬ (c : Int) * 256 = 0 := by omega
  have e2 : ((c : Int) * 256).tmod 256 = 0 := Int.mul_tmod_left _ _
  have e3 : ((c : Int) * 256).tdiv 256 = c := Int.mul_tdiv_cancel _ (by decide)
  have e4 : ¬ c = 0 := by omega
  have e5 : wrap64 (c : Int) = c := by unfold wrap64; omega
  have e6 : IntKind.i64.wrap (c : Int) = c := by rw [IntKind.wrap_i64]; omega
  unfold boxW at HD HF BB
  clear h hf hu hh
  go_enter Tryz.func123, Tryz.ntmps123
  go_wp2_with (first
    | (go_at_call 93; refine (ready_ok _ d s m D l o HD.out HF.out).mono ?_; rintro e w1 ⟨rfl, rfl⟩; rw [HU.out, if_pos rfl])
    | (go_at_call 94; refine (has_ok _ d s m D x c HD.out hx).mono ?_; rintro e w1 ⟨rfl, rfl⟩; rw [HH.out])
    | (go_at_call 174; refine (changeW_blow _ d s m _ D l o HD.out HF.out hq hp).mono ?_; rintro e w2 ⟨rfl, h1, h2, h3⟩
       have PP : Hid (BlowPost W d s m D l (.returned (.int .i64 11)) w2) := ⟨rfl, h1, h2, (Off.of BB.out).trans h3⟩
       clear h1 h2 h3))
  go_ret
  exact PP.out
end Go.Proofs.YtblphlcnbnklmaaGreatDoor
namespace Go.Proofs.YtblphlcnbnklmaaGreatDoor
open Go.RowKit Go.Maps
/-- A disk of which a byte is turned. -/
def Dsk.turn (D : Dsk) (x p : Nat) (v : Int) : Dsk := { D with sec := upd D.sec (x * 256 + p) (bits .xor .u8 (D.sec (x * 256 + p)) v) }
theorem xor_byte (a b : Int) (h1 : 0 ≤ a ∧ a < 256) (h2 : 0 ≤ b ∧ b < 256) : 0 ≤ bits .xor .u8 a b ∧ bits .xor .u8 a b < 256 := by
  rw [u8_xor a b h1.1 h1.2 h2.1 h2.2]
  have : a.toNat ^^^ b.toNat < 2 ^ 8 := Nat.xor_lt_two_pow (by omega) (by omega)
  omega
theorem DiskAt.turned {W : World} {d s m : Nat} {D : Dsk} (h : DiskAt W d s m D) (x p : Nat) (v : Int) (hx : x < D.N) (hp : p < 256) (hv : 0 ≤ v ∧ v < 256) : DiskAt (W.setCell ⟨s, x * 256 + p, none⟩ (.int .u8 (bits .xor .u8 (D.sec (x * 256 + p)) v))) d s m (D.turn x p v) := by
  have B : But s W (W.setCell ⟨s, x * 256 + p, none⟩ (.int .u8 (bits .xor .u8 (D.sec (x * 256 + p)) v))) := But.set _ _ _
  have O : Off [s] W (W.setCell ⟨s, x * 256 + p, none⟩ (.int .u8 (bits .xor .u8 (D.sec (x * 256 + p)) v))) := Off.but B (by simp)
  have e1 := h.ds
  have e2 := h.sm
  exact { h with recd := h.recd.off O (by simp; omega), row := h.row.set _ _, map := h.map.off O (by simp; omega), sb := fun j hj => (by
    show 0 ≤ upd D.sec _ _ j ∧ upd D.sec _ _ j < 256
    unfold upd
    split
    · exact xor_byte _ _ (h.sb _ (by omega)) hv
    · exact h.sb j hj) }
set_option maxRecDepth 100000 in
set_option maxHeartbeats 1000000 in
theorem turn_ok (W : World) (d s m x p : Nat) (D : Dsk) (v : Int) (h : DiskAt W d s m D) (hx : x < D.N) (hp : p < 256) (hv : 0 ≤ v ∧ v < 256) :
    Calls Tryz.prog 37 #[.pointer (some ⟨d, 0, none⟩), .int .i64 (x : Int), .int .i64 (p : Int), .int .u8 v] W fun e w' => e = .returned (.int .i64 0) ∧ DiskAt w' d s m (D.turn x p v) ∧ Off [s] W w' := by
  obtain ⟨c1, _⟩ := h.recd.cel 1 _ rfl
  have c2 := h.row.1 (x * 256 + p) (by omega)
  have f2 := h.row.2.1 (x * 256 + p)
  have HD : Hid (DiskAt W d s m D) := h
  have PP : Hid (DiskAt (W.drew.setCell ⟨s, x * 256 + p, none⟩ (.int .u8 (bits .xor .u8 (D.sec (x * 256 + p)) v))) d s m (D.turn x p v) ∧ Off [s] W (W.drew.setCell ⟨s, x * 256 + p, none⟩ (.int .u8 (bits .xor .u8 (D.sec (x * 256 + p)) v)))) := ⟨h.drew.turned x p v hx hp hv, (Off.refl [s] W).drew.trans (Off.set _ _ _ (by simp))⟩
  have p0 : ¬ (p : Int) < 0 := by omega
  have p1 : ¬ (256 : Int) ≤ p := by omega
  have x0 : ¬ (x : Int) < 0 := by omega
  have x1 : ¬ (D.N : Int) ≤ x := by omega
  have x2 : (x : Int) < D.N := by omega
  have p2 : (p : Int) < 256 := by omega
  have x3 : (0 : Int) ≤ x := by omega
  have p3 : (0 : Int) ≤ p := by omega
  have sd : ¬ s = d := fun e => h.ds e.symm
  clear h
  go_enter Tryz.func37, Tryz.ntmps37
  go_wp2_with (go_at_call 87; refine (made_ok _ d s m D HD.out).mono ?_; rintro e w1 ⟨rfl, rfl⟩)
  go_region
  go_wp2_with fail
  go_ret
  exact ⟨rfl, PP.out⟩
theorem sectors_ok (W : World) (d s m : Nat) (D : Dsk) (h : DiskAt W d s m D) : Calls Tryz.prog 103 #[.pointer (some ⟨d, 0, none⟩)] W fun e w' => e = .returned (.int .i64 (D.N : Int)) ∧ w' = W := by
  obtain ⟨c1, _⟩ := h.recd.cel 1 _ rfl
  have HD : Hid (DiskAt W d s m D) := h
  clear h
  go_enter Tryz.func103, Tryz.ntmps103
  go_wp2_with (go_at_call 87; refine (made_ok _ d s m D HD.out).mono ?_; rintro e w1 ⟨rfl, rfl⟩)
  go_ret
  exact ⟨rfl, rfl⟩
end Go.Proofs.YtblphlcnbnklmaaGreatDoor
namespace Go.Proofs.YtblphlcnbnklmaaGreatDoor
open Go.RowKit Go.Maps
/-- append where there is room. -/
theorem app_room (ty : TypeId) (W : World) (base n m C g cap : Nat) (a : Option Addr) (F G : Nat → Int) (ho : Own W base (.slice (some ⟨g, 0, none⟩) n cap) n F) (hm0 : 0 < m) (hA : Arg W a m G) (hroom : n + m ≤ cap) :
    ∃ W', (Builtin.append_ #[23, 23] ty #[.slice (some ⟨g, 0, none⟩) n cap, .slice a m C]).run Tryz.prog W = .ok (.slice (some ⟨g, 0, none⟩) (n + m) cap) W' ∧ Own W' base (.slice (some ⟨g, 0, none⟩) (n + m) cap) (n + m) (cat F n G) ∧ But g W W' := by
  obtain ⟨i0, hi, hz0, hz1, hz2⟩ := info_parts info_u8
  have hlen : (cl .u8 n F ++ cl .u8 m G).length = n + m := by simp [cl_len]
  rcases hA with ⟨h, _⟩ | ⟨_, b, off, rfl, hl⟩
  · omega
  have hnews : ∀ j u, (cl .u8 m G)[j]? = some u → W.cell? ((⟨b, off, none⟩ : Addr).add j) = some u := fun j u hj => by obtain ⟨h, rfl⟩ := cl_at' hj; rw [Addr.add_mid]; exact hl.1 j h
  rcases ho.2 with ⟨h, _⟩ | ⟨g', cap', cur, hv, hbg, hg, hnc, hcm, hcs, htake⟩
  · cases h
  injection hv with hv _ hc
  injection hv with hv
  injection hv with hv
  subst hv hc
  have hr := run_append_room (P := Tryz.prog) W 23 ty 5 i0 Tryz.underlying23 hi g n cap cur hg ⟨b, off, none⟩ m C (cl .u8 m G) (by rw [cl_len, hz1, Nat.mul_one]) hnews (cl_one _ _ _) hroom (by rw [cl_len, hcs, hz1]; omega)
  refine ⟨_, hr, ⟨by simp [cl_len], .inr ⟨g, cap, _, rfl, hbg, setRow_heap W g cur _ 5 _ hg, hroom, hcm, ?_, ?_⟩⟩, ?_⟩
  · simp only [List.size_toArray, List.length_append, List.length_take, List.length_drop, Array.length_toList, cl_len, hz1]
    omega
  · rw [Nat.mul_one] at htake ⊢
    rw [hz1, Nat.mul_one, htake, ← cl_cat, ← hlen]
    exact List.take_left
  · exact ⟨rfl, rfl, rfl, by simp, fun k _ hk => setRow_other W g k _ (fun e => hk e)⟩
theorem Own.irow {w : World} {base g n : Nat} {F : Nat → Int} (h : Own w base (.slice (some ⟨g, 0, none⟩) n n) n F) : IRow w g .u8 n F := by
  rcases h.2 with ⟨h, _⟩ | ⟨g', cap', cur, hv, hbg, hg, hnc, _, hsz, htake⟩
  · cases h
  injection hv with hv _ hc
  injection hv with hv
  injection hv with hv
  subst hv hc
  refine ⟨fun j hj => ?_, fun j => by simp [World.frozen?, hg], (Array.getElem?_eq_some_iff.1 hg).1⟩
  rw [cell_of_row w g j cur 5 (0, 0) hg]
  have := cl_at .u8 n F j hj
  rw [← htake, List.getElem?_take, if_pos (by omega)] at this
  simpa using this
theorem read_down (W : World) (d s m : Nat) (D : Dsk) (l : Int) (o : Bool) (x n : Int) (h : DiskAt W d s m D) (hf : FuseIs W D.fz l o) (hu : D.up o = false) :
    Calls Tryz.prog 45 #[.pointer (some ⟨d, 0, none⟩), .int .i64 x, .int .i64 n] W fun e w' => e = .returned (.tuple #[.slice none 0 0, .int .i64 11]) ∧ w' = W := by
  have HD : Hid (DiskAt W d s m D) := h
  have HF : Hid (FuseIs W D.fz l o) := hf
  have HU : Hid (D.up o = false) := hu
  clear h hf hu
  go_enter Tryz.func45, Tryz.ntmps45
  go_wp2_with (go_at_call 93; refine (ready_ok _ d s m D l o HD.out HF.out).mono ?_; rintro e w1 ⟨rfl, rfl⟩; rw [HU.out, if_neg (by simp)])
  go_ret2
  exact ⟨rfl, rfl⟩
theorem read_range (W : World) (d s m : Nat) (D : Dsk) (l : Int) (o : Bool) (x n : Int) (h : DiskAt W d s m D) (hf : FuseIs W D.fz l o) (hu : D.up o = true) (hx : x < 9223372036854775808) (hh : hasB D.N x n = false) :
    Calls Tryz.prog 45 #[.pointer (some ⟨d, 0, none⟩), .int .i64 x, .int .i64 n] W fun e w' => e = .returned (.tuple #[.slice none 0 0, .int .i64 5]) ∧ w' = W := by
  have HD : Hid (DiskAt W d s m D) := h
  have HF : Hid (FuseIs W D.fz l o) := hf
  have HU : Hid (D.up o = true) := hu
  have HH : Hid (hasB D.N x n = false) := hh
  clear h hf hu hh
  go_enter Tryz.func45, Tryz.ntmps45
  go_wp2_with (first
    | (go_at_call 93; refine (ready_ok _ d s m D l o HD.out HF.out).mono ?_; rintro e w1 ⟨rfl, rfl⟩; rw [HU.out, if_pos rfl])
    | (go_at_call 94; refine (has_ok _ d s m D x n HD.out hx).mono ?_; rintro e w1 ⟨rfl, rfl⟩; rw [HH.out]))
  go_ret2
  exact ⟨rfl, rfl⟩
/-- What holds at the head of the loop. -/
def readRel (w : World) (n : Nat) (F : Nat → Int) (v i : Value) (wr : World) : Prop := ∃ k : Nat, k ≤ n ∧ i = .int .i64 k ∧ v = .slice (some ⟨w.heap.size, 0, none⟩) (k * 256) (n * 256) ∧ Own wr w.heap.size (.slice (some ⟨w.heap.size, 0, none⟩) (k * 256) (n * 256)) (k * 256) F ∧ Below w.heap.size w wr
theorem read_step (w wr w1 : World) (n k : Nat) (F : Nat → Int) (hk : k < n) (bel : Below w.heap.size w wr)
    (ho : Own w1 w.heap.size (.slice (some ⟨w.heap.size, 0, none⟩) (k * 256 + 256) (n * 256)) (k * 256 + 256) (cat F (k * 256) (fun j => F (k * 256 + j)))) (hB : But w.heap.size wr w1) :
    readRel w n F (.slice (some ⟨w.heap.size, 0, none⟩) (k * 256 + 256) (n * 256)) (.int .i64 ((k : Int) + 1)) w1 := by
  have ho' := ho.congr (G := F) (fun j hj => by
    unfold cat
    by_cases q : j < k * 256
    · rw [if_pos q]
    · rw [if_neg q]; show F (k * 256 + (j - k * 256)) = F j; rw [show k * 256 + (j - k * 256) = j by omega])
  rw [show k * 256 + 256 = (k + 1) * 256 by omega] at ho' ⊢
  exact ⟨k + 1, by omega, by go_num, rfl, ho', bel.trans (hB.below (Nat.le_refl _) bel.size)⟩
/-- What Read answers: bytes in a block of just that size. -/
def ReadPost (W : World) (n : Nat) (F : Nat → Int) (e : Ending) (w' : World) : Prop := e = .returned (.tuple #[.slice (some ⟨W.heap.size, 0, none⟩) (n * 256) (n * 256), .int .i64 0]) ∧ IRow w' W.heap.size .u8 (n * 256) F ∧ Below W.heap.size W w'
set_option maxRecDepth 100000 in
set_option maxHeartbeats 1000000 in
theorem dread_ok (W : World) (d s m x n : Nat) (D : Dsk) (l : Int) (o : Bool) (h : DiskAt W d s m D) (hf : FuseIs W D.fz l o) (hu : D.up o = true) (hx : x + n ≤ D.N) :
    Calls Tryz.prog 45 #[.pointer (some ⟨d, 0, none⟩), .int .i64 (x : Int), .int .i64 (n : Int)] W (ReadPost W n (fun j => D.sec (x * 256 + j))) := by
  obtain ⟨i0, hi, hz0, hz1, hz2⟩ := info_parts info_u8
  have h2 := h.n2
  obtain ⟨W0, hmk0, hown0, hg0⟩ := run_make_own (P := Tryz.prog) W W.heap.size 23 5 i0 (.int .u8 0) 1 Tryz.underlying23 hi hz0 hz1 .i64 .i64 (n * 256) (by rw [hz2]; omega) (by unfold maxLen; omega) (Nat.le_refl _)
  have hmk : (Instr.makeSlice 23 (.int .i64 0) (.int .i64 ((n : Int) * 256))).run Tryz.prog W = .ok (.slice (some ⟨W.heap.size, 0, none⟩) 0 (n * 256)) W0 := by
    rw [show ((n * 256 : Nat) : Int) = (n : Int) * 256 by omega] at hmk0
    exact hmk0
  have ST : Hid (readRel W n (fun j => D.sec (x * 256 + j)) (.slice (some ⟨W.heap.size, 0, none⟩) 0 (n * 256)) (.int .i64 0) W0) := ⟨0, by omega, rfl, by rw [Nat.zero_mul], by rw [Nat.zero_mul]; exact hown0, (Below.refl _ _).grown hg0 (Nat.le_refl _) (fun k hk => by cases hk)⟩
  have HD : Hid (DiskAt W d s m D) := h
  have HF : Hid (FuseIs W D.fz l o) := hf
  have HU : Hid (D.up o = true) := hu
  have HH : Hid (hasB D.N x n = true) := by show hasB D.N x n = true; unfold hasB; simp; omega
  have m1 : wrap64 ((n : Int) * 256) = (n : Int) * 256 := by unfold wrap64; omega
  have m2 : IntKind.i64.wrap ((n : Int) * 256) = (n : Int) * 256 := by rw [IntKind.wrap_i64]; omega
  clear h hf hu hmk0 hown0 hg0
  go_enter Tryz.func45, Tryz.ntmps45
  go_wp2_with (first
    | (go_at_call 93; refine (ready_ok _ d s m D l o HD.out HF.out).mono ?_; rintro e w1 ⟨rfl, rfl⟩; rw [HU.out, if_pos rfl])
    | (go_at_call 94; refine (has_ok _ d s m D x n HD.out (by omega)).mono ?_; rintro e w1 ⟨rfl, rfl⟩; rw [HH.out]))
  go_loopw [9, 25] (fun v i wr => readRel w1 n (fun j => D.sec (x * 256 + j)) v i wr) (fun _ i _ => n - (RowKit.intOf i).toNat)
  case atStart => exact ST.out
  case round =>
    obtain ⟨k, hk, rfl, rfl, hown, bel⟩ := hrel
    clear ST hmk
    have BE : Hid (Below w1.heap.size w1 wr) := bel
    by_cases hlt : k < n
    · have i1 : (k : Int) < n := by omega
      have D1 := HD.out.below bel
      obtain ⟨c1, _⟩ := D1.recd.cel 1 _ rfl
      have i2 : wrap64 ((x : Int) + k) = (x : Int) + k := by unfold wrap64; omega
      have i3 : IntKind.i64.wrap ((x : Int) + k) = (x : Int) + k := by rw [IntKind.wrap_i64]; omega
      have i4 : (0 : Int) ≤ (x : Int) + k := by omega
      have i5 : (x : Int) + k < D.N := by omega
      have i6 : ((x : Int) + k).toNat = x + k := by omega
      have l1 : Lies wr s ((x + k) * 256) 256 (fun j => D.sec (x * 256 + (k * 256 + j))) := ⟨fun j hj => by rw [D1.row.1 _ (by omega), show (x + k) * 256 + j = x * 256 + (k * 256 + j) by omega], fun j hj => by have := D1.sb ((x + k) * 256 + j) (by omega); rwa [show (x + k) * 256 + j = x * 256 + (k * 256 + j) by omega] at this, D1.sl⟩
      obtain ⟨w4, hr4, hO4, hB4⟩ := app_room 23 wr w1.heap.size (k * 256) 256 256 w1.heap.size (n * 256) (some ⟨s, (x + k) * 256, none⟩) (fun j => D.sec (x * 256 + j)) _ hown (by omega) (Arg.of l1) (by omega)
      have RR : Hid (readRel w1 n (fun j => D.sec (x * 256 + j)) (.slice (some ⟨w1.heap.size, 0, none⟩) (k * 256 + 256) (n * 256)) (.int .i64 ((k : Int) + 1)) w4) := read_step w1 wr w4 n k _ hlt bel hO4 hB4
      clear l1 hO4 hB4 D1 bel hown
      go_wp2_with (at_builtin; refine wpList_append_go rfl _ _ 23 23 rfl _ _ rfl rfl hr4 ?_)
      go_roundw
      case rel => exact RR.out
      case measure => simp [RowKit.intOf]; omega
    · obtain rfl : k = n := by omega
      go_wp2_with fail
      exact bodyPost_ret (by simp [results, Tryz.results45, go_sem]) rfl ⟨rfl, hown.irow, BE.out⟩
end Go.Proofs.YtblphlcnbnklmaaGreatDoor
namespace Go.Proofs.YtblphlcnbnklmaaGreatDoor
open Go.RowKit Go.Maps
theorem Dsk.wrote_out (D : Dsk) (a : Nat) (F : Nat → Int) : ∀ k, (D.wrote a F k).out = D.out
  | 0 => rfl
  | k + 1 => D.wrote_out a F k
theorem Dsk.wrote_lo (D : Dsk) (a : Nat) (F : Nat → Int) (n : Nat) : ∀ k, (D.wrote a F k).lo n = (decide (a ≤ n ∧ n < a + k) || D.lo n)
  | 0 => by
    have : ¬ (a ≤ n ∧ n < a + 0) := by omega
    show D.lo n = _
    rw [decide_eq_false this, Bool.false_or]
  | k + 1 => by
    show setB (D.wrote a F k).lo (a + k) n = _
    unfold setB
    rw [D.wrote_lo a F n k]
    by_cases e : n = a + k
    · rw [if_pos e, decide_eq_true (by omega), Bool.true_or]
    · rw [if_neg e, show decide (a ≤ n ∧ n < a + k) = decide (a ≤ n ∧ n < a + (k + 1)) from by rw [decide_eq_decide]; omega]
theorem Dsk.wrote_sec (D : Dsk) (a : Nat) (F : Nat → Int) (n j : Nat) (hj : j < 256) : ∀ k, at256 (D.wrote a F k).sec n j = if a ≤ n ∧ n < a + k then F ((n - a) * 256 + j) else at256 D.sec n j
  | 0 => by rw [if_neg (by omega)]; rfl
  | k + 1 => by
    show at256 (putF (D.wrote a F k).sec (a + k) (fun j => F (k * 256 + j))) n j = _
    by_cases e : n = a + k
    · subst e
      rw [putF_same _ _ _ _ hj, if_pos (by omega), show a + k - a = k by omega]
    · rw [putF_other _ _ _ _ _ hj e, D.wrote_sec a F n j hj k]
      by_cases g : a ≤ n ∧ n < a + k
      · rw [if_pos g, if_pos (by omega)]
      · rw [if_neg g, if_neg (by omega)]
theorem Dsk.wrote_ob (D : Dsk) (a : Nat) (F : Nat → Int) (n j : Nat) (hj : j < 256) : ∀ k, at256 (D.wrote a F k).ob n j = if (a ≤ n ∧ n < a + k) ∧ D.lo n = false then at256 D.sec n j else at256 D.ob n j
  | 0 => by rw [if_neg (by omega)]; rfl
  | k + 1 => by
    show at256 (if (D.wrote a F k).lo (a + k) = true then (D.wrote a F k).ob else putF (D.wrote a F k).ob (a + k) (at256 (D.wrote a F k).sec (a + k))) n j = _
    have l1 := D.wrote_lo a F (a + k) k
    rw [decide_eq_false (by omega), Bool.false_or] at l1
    rw [l1]
    by_cases e : n = a + k
    · subst e
      by_cases g : D.lo (a + k) = true
      · rw [if_pos g, D.wrote_ob a F (a + k) j hj k, if_neg (by omega), if_neg (fun q => by rw [q.2] at g; cases g)]
      · rw [if_neg g, putF_same _ _ _ _ hj, D.wrote_sec a F (a + k) j hj k, if_neg (by omega), if_pos ⟨by omega, by simpa using g⟩]
    · have key : at256 (D.wrote a F k).ob n j = if (a ≤ n ∧ n < a + (k + 1)) ∧ D.lo n = false then at256 D.sec n j else at256 D.ob n j := by
        rw [D.wrote_ob a F n j hj k]
        by_cases g : (a ≤ n ∧ n < a + k) ∧ D.lo n = false
        · rw [if_pos g, if_pos ⟨by omega, g.2⟩]
        · rw [if_neg g, if_neg (fun q => g ⟨by omega, q.2⟩)]
      split
      · exact key
      · rw [putF_other _ _ _ _ _ hj e]
        exact key
/-- A disk that was made behind w0, and all that lies before w0 is as it was. -/
structure St (w0 W : World) (d s m : Nat) (D : Dsk) : Prop where
  at' : DiskAt W d s m D
  hd : w0.heap.size ≤ d
  hs : w0.heap.size ≤ s
  hm : w0.heap.size ≤ m
  bel : Below w0.heap.size w0 W
theorem St.below {w0 W W' : World} {d s m : Nat} {D : Dsk} (h : St w0 W d s m D) (hB : Below W.heap.size W W') : St w0 W' d s m D := ⟨h.at'.below hB, h.hd, h.hs, h.hm, h.bel.trans (hB.mono h.bel.size)⟩
theorem St.of {w0 W W' : World} {d s m : Nat} {D D' : Dsk} {bs : List Nat} {m' : Nat} (h : St w0 W d s m D) (hb : ∀ b, b ∈ bs → b = d ∨ b = s ∨ b = m) (hO : Off bs W W') (hm' : m' = m ∨ W.heap.size ≤ m') (hD : DiskAt W' d s m' D') : St w0 W' d s m' D' :=
  ⟨hD, h.hd, h.hs, by rcases hm' with rfl | g; (· exact h.hm); (· exact Nat.le_trans h.bel.size g), h.bel.trans (hO.below (fun b q => by have h1 := h.hd; have h2 := h.hs; have h3 := h.hm; rcases hb b q with rfl | rfl | rfl <;> omega) h.bel.size)⟩
/-- What a step of such a disk answers. -/
def StPost (w0 W : World) (d s : Nat) (D : Dsk) (bs : List Nat) (c : Int) (e : Ending) (w' : World) : Prop := e = .returned (.int .i64 c) ∧ ∃ m', St w0 w' d s m' D ∧ (m' ∈ bs ∨ W.heap.size ≤ m') ∧ Off bs W w'
/-- No fuse, and up. -/
def Dsk.free (D : Dsk) : Prop := D.fz = none ∧ D.out = false ∧ 0 ≤ D.ops ∧ D.ops ≤ 1000000
theorem Dsk.free.up {D : Dsk} (h : D.free) : D.up false = true := by unfold Dsk.up; rw [h.2.1]; rfl
theorem Dsk.free.pass {D : Dsk} (h : D.free) (l : Int) : fzPass D.fz l = true := by rw [h.1]; rfl
theorem Dsk.free.fuse {D : Dsk} (h : D.free) (W : World) (l : Int) : FuseIs W D.fz l false := by rw [h.1]; rfl
theorem Dsk.free.ok {D : Dsk} (h : D.free) (d s m : Nat) : FzOk D d s m := fun q e => by rw [h.1] at e; cases e
theorem st_write (w0 W : World) (d s m a b off c n C : Nat) (i : Int) (D : Dsk) (f : Nat → Int) (h : St w0 W d s m D) (hf : D.free) (hi : i = a) (hn : n = c * 256) (hL : Lies W b off (c * 256) f) (hc1 : 1 ≤ c) (hc : c ≤ 80) (hC : c * 256 ≤ C) (ha : a + c ≤ D.N) (hb : b ≠ s ∧ b ≠ m) :
    Calls Tryz.prog 123 #[.pointer (some ⟨d, 0, none⟩), .int .i64 i, .slice (some ⟨b, off, none⟩) n C] W (StPost w0 W d s (D.wrote a f c).more [d, s, m] 0) := by
  subst hi hn
  refine (write_ok W d s m a b off c C D f 0 false h.at' (hf.fuse W 0) (hf.ok d s m) hf.up (hf.pass 0) hL hc1 hc hC ha hb (fun q e => by rw [hf.1] at e; cases e) hf.2.2).mono ?_
  rintro e w' ⟨rfl, hD, _, hO⟩
  rw [hf.1] at hO
  exact ⟨rfl, m, h.of (bs := [d, s, m]) (fun b q => by simpa using q) hO (.inl rfl) hD, .inl (by simp), hO⟩
end Go.Proofs.YtblphlcnbnklmaaGreatDoor
namespace Go.Proofs.YtblphlcnbnklmaaGreatDoor
open Go.RowKit Go.Maps
/-- A disk of few changes, without a fuse, up. -/
def Dsk.few (D : Dsk) (n : Int) : Prop := D.fz = none ∧ D.out = false ∧ 0 ≤ D.ops ∧ D.ops ≤ n
theorem Dsk.few.free {D : Dsk} {n : Int} (h : D.few n) (hn : n ≤ 1000000) : D.free := ⟨h.1, h.2.1, h.2.2.1, by have := h.2.2.2; omega⟩
theorem Dsk.few.mono {D : Dsk} {n n' : Int} (h : D.few n) (hn : n ≤ n') : D.few n' := ⟨h.1, h.2.1, h.2.2.1, by have := h.2.2.2; omega⟩
theorem Dsk.few.wrote {D : Dsk} {n : Int} (h : D.few n) (a : Nat) (F : Nat → Int) (k : Nat) : ((D.wrote a F k).more).few (n + 1) := by
  obtain ⟨h1, h2, h3, h4⟩ := h
  refine ⟨(D.wrote_fz a F k).trans h1, (D.wrote_out a F k).trans h2, ?_, ?_⟩
  · show 0 ≤ (D.wrote a F k).ops + 1; rw [D.wrote_ops]; omega
  · show (D.wrote a F k).ops + 1 ≤ n + 1; rw [D.wrote_ops]; omega
theorem Dsk.few.safe {D : Dsk} {n : Int} (h : D.few n) : (D.safe.more).few (n + 1) := by
  obtain ⟨h1, h2, h3, h4⟩ := h
  exact ⟨h1, h2, by show 0 ≤ D.ops + 1; omega, by show D.ops + 1 ≤ n + 1; omega⟩
/-- What keep makes of a disk. -/
def Dsk.kept (D : Dsk) (a : Nat) (F : Nat → Int) (k : Nat) : Dsk := ((D.wrote a F k).more).safe.more
theorem Dsk.few.kept {D : Dsk} {n : Int} (h : D.few n) (a : Nat) (F : Nat → Int) (k : Nat) : (D.kept a F k).few (n + 2) := by
  have := (h.wrote a F k).safe
  exact this.mono (by omega)
theorem Dsk.kept_N (D : Dsk) (a : Nat) (F : Nat → Int) (k : Nat) : (D.kept a F k).N = D.N := D.wrote_N a F k
end Go.Proofs.YtblphlcnbnklmaaGreatDoor
namespace Go.Proofs.YtblphlcnbnklmaaGreatDoor
open Go.RowKit Go.Maps
/-- A pointer that is nil, or is to a zero Disk. -/
def NoD (W : World) (p : Option Addr) : Prop := p = none ∨ ∃ z, p = some ⟨z, 0, none⟩ ∧ W.cell? ⟨z, 0, none⟩ = some (.pointer none) ∧ z < W.heap.size
theorem NoD.below {W W' : World} {p : Option Addr} (h : NoD W p) (hB : Below W.heap.size W W') : NoD W' p := by
  rcases h with rfl | ⟨z, rfl, c, l⟩
  · exact .inl rfl
  · exact .inr ⟨z, rfl, (hB.cell (p := ⟨z, 0, none⟩) l).trans c, Nat.lt_of_lt_of_le l hB.size⟩
theorem made_none (W : World) (p : Option Addr) (h : NoD W p) : Calls Tryz.prog 87 #[.pointer p] W fun e w' => e = .returned (.bool false) ∧ w' = W := by
  rcases h with rfl | ⟨z, rfl, c, _⟩
  · exact made_nil W
  · exact made_no W z c
theorem dready_no (W : World) (p : Option Addr) (h : NoD W p) : Calls Tryz.prog 93 #[.pointer p] W fun e w' => e = .returned (.int .i64 1) ∧ w' = W := by
  have MD : Hid (Calls Tryz.prog 87 #[.pointer p] W fun e w' => e = .returned (.bool false) ∧ w' = W) := made_none W p h
  clear h
  go_enter Tryz.func93, Tryz.ntmps93
  go_wp2_with (go_at_call 87; refine MD.out.mono ?_; rintro e w1 ⟨rfl, rfl⟩)
  go_ret
  exact ⟨rfl, rfl⟩
theorem dup_no (W : World) (p : Option Addr) (h : NoD W p) : Calls Tryz.prog 138 #[.pointer p] W fun e w' => e = .returned (.bool false) ∧ w' = W := by
  have MD : Hid (Calls Tryz.prog 87 #[.pointer p] W fun e w' => e = .returned (.bool false) ∧ w' = W) := made_none W p h
  clear h
  go_enter Tryz.func138, Tryz.ntmps138
  go_wp2_with (go_at_call 87; refine MD.out.mono ?_; rintro e w1 ⟨rfl, rfl⟩)
  go_ret
  exact ⟨rfl, rfl⟩
theorem dread_no (W : World) (p : Option Addr) (x n : Int) (h : NoD W p) : Calls Tryz.prog 45 #[.pointer p, .int .i64 x, .int .i64 n] W fun e w' => e = .returned (.tuple #[.slice none 0 0, .int .i64 1]) ∧ w' = W := by
  have MD : Hid (Calls Tryz.prog 93 #[.pointer p] W fun e w' => e = .returned (.int .i64 1) ∧ w' = W) := dready_no W p h
  clear h
  go_enter Tryz.func45, Tryz.ntmps45
  go_wp2_with (go_at_call 93; refine MD.out.mono ?_; rintro e w1 ⟨rfl, rfl⟩)
  exact bodyPost_ret (by simp [results, Tryz.results45, go_sem]) rfl ⟨rfl, rfl⟩
theorem dwrite_no (W : World) (p a : Option Addr) (x : Int) (n C : Nat) (h : NoD W p) : Calls Tryz.prog 123 #[.pointer p, .int .i64 x, .slice a n C] W fun e w' => e = .returned (.int .i64 1) ∧ Below W.heap.size W w' := by
  obtain ⟨W1, hW1⟩ : ∃ W1, ((W.alloc (.cells #[.pointer p] 45)).alloc (.cells #[.int .i64 x] 3)).alloc (.cells #[.slice a n C] 23) = W1 := ⟨_, rfl⟩
  have B0 : Below W.heap.size W (((W.alloc (.cells #[.pointer p] 45)).alloc (.cells #[.int .i64 x] 3)).alloc (.cells #[.slice a n C] 23)) := (((Below.refl _ _).alloc (Nat.le_refl _) _).alloc (by simp) _).alloc (by simp; omega) _
  have MD : Hid (Calls Tryz.prog 93 #[.pointer p] (((W.alloc (.cells #[.pointer p] 45)).alloc (.cells #[.int .i64 x] 3)).alloc (.cells #[.slice a n C] 23)) fun e w' => e = .returned (.int .i64 1) ∧ w' = ((W.alloc (.cells #[.pointer p] 45)).alloc (.cells #[.int .i64 x] 3)).alloc (.cells #[.slice a n C] 23)) := dready_no _ p (h.below B0)
  have BB : Hid (Below W.heap.size W (((W.alloc (.cells #[.pointer p] 45)).alloc (.cells #[.int .i64 x] 3)).alloc (.cells #[.slice a n C] 23))) := B0
  clear h B0 hW1 W1
  go_enter Tryz.func123, Tryz.ntmps123
  go_wp2_with (go_at_call 93; refine MD.out.mono ?_; rintro e w1 ⟨rfl, rfl⟩)
  go_ret
  exact ⟨rfl, BB.out⟩
end Go.Proofs.YtblphlcnbnklmaaGreatDoor
