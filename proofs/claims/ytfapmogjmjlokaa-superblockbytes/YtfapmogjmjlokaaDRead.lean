/-
  Walks, not a claim by itself: Read. By the verifier.
-/
import Derived.Test.YtfapmogjmjlokaaDOne
import Derived.Laws.MakeOwn
namespace Go.Proofs.Ytfapmogjmjlokaa
open Go.RowKit Go.Maps
/-- append where there is room. -/
theorem app_room (ty : TypeId) (W : World) (base n m C g cap : Nat) (a : Option Addr) (F G : Nat → Int) (ho : Own W base (.slice (some ⟨g, 0, none⟩) n cap) n F) (hm0 : 0 < m) (hA : Arg W a m G) (hroom : n + m ≤ cap) :
    ∃ W', (Builtin.append_ #[27, 27] ty #[.slice (some ⟨g, 0, none⟩) n cap, .slice a m C]).run Try.prog W = .ok (.slice (some ⟨g, 0, none⟩) (n + m) cap) W' ∧ Own W' base (.slice (some ⟨g, 0, none⟩) (n + m) cap) (n + m) (cat F n G) ∧ But g W W' := by
  obtain ⟨i0, hi, hz0, hz1, hz2⟩ := info_parts info_u8
  have hlen : (cl .u8 n F ++ cl .u8 m G).length = n + m := by simp [cl_len]
  rcases hA with ⟨h, _⟩ | ⟨_, b, off, rfl, hl⟩
  · omega
  have hnews : ∀ j u, (cl .u8 m G)[j]? = some u → W.cell? ((⟨b, off, none⟩ : Addr).add j) = some u := fun j u hj => by obtain ⟨h, rfl⟩ := cl_at' hj; rw [Addr.add_mid]; exact hl.1 j h
  rcases ho.2 with ⟨h, _⟩ | ⟨g', cap', cur, hv, hbg, hg, hnc, hcm, hcs, htake⟩
  · cases h
  injection hv with hv _ hc
  injection hv with hv
  injection hv with hv
  subst hv hc
  have hr := run_append_room (P := Try.prog) W 27 ty 5 i0 Try.underlying27 hi g n cap cur hg ⟨b, off, none⟩ m C (cl .u8 m G) (by rw [cl_len, hz1, Nat.mul_one]) hnews (cl_one _ _ _) hroom (by rw [cl_len, hcs, hz1]; omega)
  refine ⟨_, hr, ⟨by simp [cl_len], .inr ⟨g, cap, _, rfl, hbg, setRow_heap W g cur _ 5 _ hg, hroom, hcm, ?_, ?_⟩⟩, ?_⟩
  · simp only [List.size_toArray, List.length_append, List.length_take, List.length_drop, Array.length_toList, cl_len, hz1]
    omega
  · rw [Nat.mul_one] at htake ⊢
    rw [hz1, Nat.mul_one, htake, ← cl_cat, ← hlen]
    exact List.take_left
  · exact ⟨rfl, rfl, rfl, by simp, fun k _ hk => setRow_other W g k _ (fun e => hk e)⟩
theorem Own.irow {w : World} {base g n : Nat} {F : Nat → Int} (h : Own w base (.slice (some ⟨g, 0, none⟩) n n) n F) : IRow w g .u8 n F := by
  rcases h.2 with ⟨h, _⟩ | ⟨g', cap', cur, hv, hbg, hg, hnc, _, hsz, htake⟩
  · cases h
  injection hv with hv _ hc
  injection hv with hv
  injection hv with hv
  subst hv hc
  refine ⟨fun j hj => ?_, fun j => by simp [World.frozen?, hg], (Array.getElem?_eq_some_iff.1 hg).1⟩
  rw [cell_of_row w g j cur 5 (0, 0) hg]
  have := cl_at .u8 n F j hj
  rw [← htake, List.getElem?_take, if_pos (by omega)] at this
  simpa using this
theorem read_down (W : World) (d s m : Nat) (D : Dsk) (l : Int) (o : Bool) (x n : Int) (h : DiskAt W d s m D) (hf : FuseIs W D.fz l o) (hu : D.up o = false) :
    Calls Try.prog 31 #[.pointer (some ⟨d, 0, none⟩), .int .i64 x, .int .i64 n] W fun e w' => e = .returned (.tuple #[.slice none 0 0, .int .i64 11]) ∧ w' = W := by
  have HD : Hid (DiskAt W d s m D) := h
  have HF : Hid (FuseIs W D.fz l o) := hf
  have HU : Hid (D.up o = false) := hu
  clear h hf hu
  go_enter Try.func31, Try.ntmps31
  go_wp2_with (go_at_call 52; refine (ready_ok _ d s m D l o HD.out HF.out).mono ?_; rintro e w1 ⟨rfl, rfl⟩; rw [HU.out, if_neg (by simp)])
  go_ret2
  exact ⟨rfl, rfl⟩
theorem read_range (W : World) (d s m : Nat) (D : Dsk) (l : Int) (o : Bool) (x n : Int) (h : DiskAt W d s m D) (hf : FuseIs W D.fz l o) (hu : D.up o = true) (hx : x < 9223372036854775808) (hh : hasB D.N x n = false) :
    Calls Try.prog 31 #[.pointer (some ⟨d, 0, none⟩), .int .i64 x, .int .i64 n] W fun e w' => e = .returned (.tuple #[.slice none 0 0, .int .i64 5]) ∧ w' = W := by
  have HD : Hid (DiskAt W d s m D) := h
  have HF : Hid (FuseIs W D.fz l o) := hf
  have HU : Hid (D.up o = true) := hu
  have HH : Hid (hasB D.N x n = false) := hh
  clear h hf hu hh
  go_enter Try.func31, Try.ntmps31
  go_wp2_with (first
    | (go_at_call 52; refine (ready_ok _ d s m D l o HD.out HF.out).mono ?_; rintro e w1 ⟨rfl, rfl⟩; rw [HU.out, if_pos rfl])
    | (go_at_call 53; refine (has_ok _ d s m D x n HD.out hx).mono ?_; rintro e w1 ⟨rfl, rfl⟩; rw [HH.out]))
  go_ret2
  exact ⟨rfl, rfl⟩
/-- What holds at the head of the loop. -/
def readRel (w : World) (n : Nat) (F : Nat → Int) (v i : Value) (wr : World) : Prop := ∃ k : Nat, k ≤ n ∧ i = .int .i64 k ∧ v = .slice (some ⟨w.heap.size, 0, none⟩) (k * 256) (n * 256) ∧ Own wr w.heap.size (.slice (some ⟨w.heap.size, 0, none⟩) (k * 256) (n * 256)) (k * 256) F ∧ Below w.heap.size w wr
theorem read_step (w wr w1 : World) (n k : Nat) (F : Nat → Int) (hk : k < n) (bel : Below w.heap.size w wr)
    (ho : Own w1 w.heap.size (.slice (some ⟨w.heap.size, 0, none⟩) (k * 256 + 256) (n * 256)) (k * 256 + 256) (cat F (k * 256) (fun j => F (k * 256 + j)))) (hB : But w.heap.size wr w1) :
    readRel w n F (.slice (some ⟨w.heap.size, 0, none⟩) (k * 256 + 256) (n * 256)) (.int .i64 ((k : Int) + 1)) w1 := by
  have ho' := ho.congr (G := F) (fun j hj => by
    unfold cat
    by_cases q : j < k * 256
    · rw [if_pos q]
    · rw [if_neg q]; show F (k * 256 + (j - k * 256)) = F j; rw [show k * 256 + (j - k * 256) = j by omega])
  rw [show k * 256 + 256 = (k + 1) * 256 by omega] at ho' ⊢
  exact ⟨k + 1, by omega, by go_num, rfl, ho', bel.trans (hB.below (Nat.le_refl _) bel.size)⟩
/-- What Read answers: bytes in a block of just that size. -/
def ReadPost (W : World) (n : Nat) (F : Nat → Int) (e : Ending) (w' : World) : Prop := e = .returned (.tuple #[.slice (some ⟨W.heap.size, 0, none⟩) (n * 256) (n * 256), .int .i64 0]) ∧ IRow w' W.heap.size .u8 (n * 256) F ∧ Below W.heap.size W w'
set_option maxRecDepth 100000 in
set_option maxHeartbeats 1000000 in
theorem read_ok (W : World) (d s m x n : Nat) (D : Dsk) (l : Int) (o : Bool) (h : DiskAt W d s m D) (hf : FuseIs W D.fz l o) (hu : D.up o = true) (hx : x + n ≤ D.N) :
    Calls Try.prog 31 #[.pointer (some ⟨d, 0, none⟩), .int .i64 (x : Int), .int .i64 (n : Int)] W (ReadPost W n (fun j => D.sec (x * 256 + j))) := by
  obtain ⟨i0, hi, hz0, hz1, hz2⟩ := info_parts info_u8
  have h2 := h.n2
  obtain ⟨W0, hmk0, hown0, hg0⟩ := run_make_own (P := Try.prog) W W.heap.size 27 5 i0 (.int .u8 0) 1 Try.underlying27 hi hz0 hz1 .i64 .i64 (n * 256) (by rw [hz2]; omega) (by unfold maxLen; omega) (Nat.le_refl _)
  have hmk : (Instr.makeSlice 27 (.int .i64 0) (.int .i64 ((n : Int) * 256))).run Try.prog W = .ok (.slice (some ⟨W.heap.size, 0, none⟩) 0 (n * 256)) W0 := by
    rw [show ((n * 256 : Nat) : Int) = (n : Int) * 256 by omega] at hmk0
    exact hmk0
  have ST : Hid (readRel W n (fun j => D.sec (x * 256 + j)) (.slice (some ⟨W.heap.size, 0, none⟩) 0 (n * 256)) (.int .i64 0) W0) := ⟨0, by omega, rfl, by rw [Nat.zero_mul], by rw [Nat.zero_mul]; exact hown0, (Below.refl _ _).grown hg0 (Nat.le_refl _) (fun k hk => by cases hk)⟩
  have HD : Hid (DiskAt W d s m D) := h
  have HF : Hid (FuseIs W D.fz l o) := hf
  have HU : Hid (D.up o = true) := hu
  have HH : Hid (hasB D.N x n = true) := by show hasB D.N x n = true; unfold hasB; simp; omega
  have m1 : wrap64 ((n : Int) * 256) = (n : Int) * 256 := by unfold wrap64; omega
  have m2 : IntKind.i64.wrap ((n : Int) * 256) = (n : Int) * 256 := by rw [IntKind.wrap_i64]; omega
  clear h hf hu hmk0 hown0 hg0
  go_enter Try.func31, Try.ntmps31
  go_wp2_with (first
    | (go_at_call 52; refine (ready_ok _ d s m D l o HD.out HF.out).mono ?_; rintro e w1 ⟨rfl, rfl⟩; rw [HU.out, if_pos rfl])
    | (go_at_call 53; refine (has_ok _ d s m D x n HD.out (by omega)).mono ?_; rintro e w1 ⟨rfl, rfl⟩; rw [HH.out]))
  go_loopw [9, 25] (fun v i wr => readRel w1 n (fun j => D.sec (x * 256 + j)) v i wr) (fun _ i _ => n - (RowKit.intOf i).toNat)
  case atStart => exact ST.out
  case round =>
    obtain ⟨k, hk, rfl, rfl, hown, bel⟩ := hrel
    clear ST hmk
    have BE : Hid (Below w1.heap.size w1 wr) := bel
    by_cases hlt : k < n
    · have i1 : (k : Int) < n := by omega
      have D1 := HD.out.below bel
      obtain ⟨c1, _⟩ := D1.recd.cel 1 _ rfl
      have i2 : wrap64 ((x : Int) + k) = (x : Int) + k := by unfold wrap64; omega
      have i3 : IntKind.i64.wrap ((x : Int) + k) = (x : Int) + k := by rw [IntKind.wrap_i64]; omega
      have i4 : (0 : Int) ≤ (x : Int) + k := by omega
      have i5 : (x : Int) + k < D.N := by omega
      have i6 : ((x : Int) + k).toNat = x + k := by omega
      have l1 : Lies wr s ((x + k) * 256) 256 (fun j => D.sec (x * 256 + (k * 256 + j))) := ⟨fun j hj => by rw [D1.row.1 _ (by omega), show (x + k) * 256 + j = x * 256 + (k * 256 + j) by omega], fun j hj => by have := D1.sb ((x + k) * 256 + j) (by omega); rwa [show (x + k) * 256 + j = x * 256 + (k * 256 + j) by omega] at this, D1.sl⟩
      obtain ⟨w4, hr4, hO4, hB4⟩ := app_room 27 wr w1.heap.size (k * 256) 256 256 w1.heap.size (n * 256) (some ⟨s, (x + k) * 256, none⟩) (fun j => D.sec (x * 256 + j)) _ hown (by omega) (Arg.of l1) (by omega)
      have RR : Hid (readRel w1 n (fun j => D.sec (x * 256 + j)) (.slice (some ⟨w1.heap.size, 0, none⟩) (k * 256 + 256) (n * 256)) (.int .i64 ((k : Int) + 1)) w4) := read_step w1 wr w4 n k _ hlt bel hO4 hB4
      clear l1 hO4 hB4 D1 bel hown
      go_wp2_with (at_builtin; refine wpList_append_go rfl _ _ 27 27 rfl _ _ rfl rfl hr4 ?_)
      go_roundw
      case rel => exact RR.out
      case measure => simp [RowKit.intOf]; omega
    · obtain rfl : k = n := by omega
      go_wp2_with fail
      exact bodyPost_ret (by simp [results, Try.results31, go_sem]) rfl ⟨rfl, hown.irow, BE.out⟩
end Go.Proofs.Ytfapmogjmjlokaa
