/-
  Walks, not a claim by itself: the bytes of a header. By the verifier.
-/
import Derived.Test.YtijpoipcadhchaaDoorMChk
import Derived.Test.YtijpoipcadhchaaDoorMU
namespace Go.Proofs.YtijpoipcadhchaaDoor
open Go.RowKit
theorem zero8_256 : (Tryd.prog.info? 90).bind (·.zero) = some (.agg (cl .u8 256 fun _ => 0).toArray) := by kernel_rfl
/-- The bytes with the first k numbers laid. -/
def laysF (h s : Nat → Int) : Nat → Nat → Int
  | 0 => over (fun _ => 0) 16 16 s
  | k + 1 => over (laysF h s k) (fat k) 4 (byt (h (pos k)))
theorem laysF_succ (h s : Nat → Int) (k : Nat) : laysF h s (k + 1) = over (laysF h s k) (fat k) 4 (byt (h (pos k))) := rfl
/-- All but the header's seal. -/
def innerF (h s : Nat → Int) : Nat → Int := over (over (laysF h s 13) 68 16 (wide (h 9) (h 10))) 92 8 (byt (h 13))
/-- The header's bytes, s being the seal of its body. -/
def headF (h s : Nat → Int) : Nat → Int := over (innerF h s) 0 16 (sealF 240 (fun j => innerF h s (16 + j)))
theorem over_byte (g : Nat → Int) (o c : Nat) (f : Nat → Int) (hg : ∀ j, 0 ≤ g j ∧ g j < 256) (hf : ∀ j, j < c → 0 ≤ f j ∧ f j < 256) (j : Nat) : 0 ≤ over g o c f j ∧ over g o c f j < 256 := by
  unfold over
  split
  · exact hf _ (by omega)
  · exact hg j
theorem laysF_byte (h s : Nat → Int) (hs : ∀ j, j < 16 → 0 ≤ s j ∧ s j < 256) : ∀ (k j : Nat), 0 ≤ laysF h s k j ∧ laysF h s k j < 256
  | 0, j => over_byte _ _ _ _ (fun _ => by show (0:Int) ≤ 0 ∧ (0:Int) < 256; omega) hs j
  | k + 1, j => over_byte _ _ _ _ (laysF_byte h s hs k) (fun j _ => byt_byte _ j) j
theorem innerF_byte (h s : Nat → Int) (hs : ∀ j, j < 16 → 0 ≤ s j ∧ s j < 256) (j : Nat) : 0 ≤ innerF h s j ∧ innerF h s j < 256 :=
  over_byte _ _ _ _ (over_byte _ _ _ _ (laysF_byte h s hs 13) (fun j _ => wide_byte _ _ j)) (fun j _ => byt_byte _ j) j
theorem headF_byte (h s : Nat → Int) (hs : ∀ j, j < 16 → 0 ≤ s j ∧ s j < 256) (j : Nat) : 0 ≤ headF h s j ∧ headF h s j < 256 :=
  over_byte _ _ _ _ (innerF_byte h s hs) (fun j _ => sealF_byte _ _ j) j
theorem fat_le (k : Nat) (h : k < 13) : 32 ≤ fat k ∧ fat k ≤ 104 := by unfold fat; split <;> (try split) <;> omega
theorem within_of {h : Nat → Int} {k : Nat} (hw : within h k = true) : 0 ≤ h (pos k) ∧ h (pos k) ≤ 1073741824 := by
  unfold within fle fmo at hw
  simp at hw
  obtain ⟨a, b⟩ := hw
  refine ⟨?_, ?_⟩
  · split at a <;> omega
  · split at b <;> (try split at b) <;> (try split at b) <;> omega
/-- What holds at the head of the loop. -/
def mbRel (w : World) (p r q : Nat) (h s : Nat → Int) (i : Value) (wr : World) : Prop := ∃ k : Nat, k ≤ 13 ∧ i = .int .i64 k ∧ IRow wr q .u8 256 (laysF h s k) ∧ IRow wr r .u8 256 (fun _ => 0) ∧ Rec19 wr p 0 (hcs h) ∧ Tab wr ∧ Below w.heap.size w wr
theorem mb_step (w wr w' : World) (p r q k : Nat) (h s : Nat → Int) (hk : k < 13) (hp : p < w.heap.size) (hr : w.heap.size ≤ r) (hq : r < q) (hR : IRow w' q .u8 256 (over (laysF h s k) (fat k) 4 (byt (h (pos k))))) (hr' : IRow wr r .u8 256 (fun _ => 0)) (hp' : Rec19 wr p 0 (hcs h)) (hT : Tab wr) (hB : Below w.heap.size w wr) (hT0 : 0 < w.heap.size) (hb : But q wr.drew w') :
    mbRel w p r q h s (.int .i64 ((k : Int) + 1)) w' := by
  have hbb : Below w.heap.size wr w' := (Below.refl _ wr).drew.trans (hb.below (by omega) hB.size)
  exact ⟨k + 1, by omega, by go_num, hR, hr'.drew.but hb (by omega), (show Rec19 wr.drew p 0 (hcs h) from hp').but hb (by omega), hT.below hbb hT0, hB.trans hbb⟩
set_option maxRecDepth 100000 in
set_option maxHeartbeats 400000 in
theorem own_bytes (p : Nat) (h s : Nat → Int) (w : World) (hT : Tab w) (hR : Rec19 w p 0 (hcs h)) (hok : okH h = true) (h9 : Word (h 9)) (h10 : Word (h 10)) (h13 : Word (h 13)) (hs : ∀ j, j < 16 → 0 ≤ s j ∧ s j < 256) :
    Calls Tryd.prog 74 #[.pointer (some ⟨p, 0, none⟩), .agg (cl .u8 16 s).toArray] w fun e w' => e = .returned (.agg (cl .u8 256 (headF h s)).toArray) ∧ Below w.heap.size w w' := by
  have hp := hR.2.2
  have hT0 := hT.2
  have TT : Hid (Tab w) := hT
  have PP : Hid (Rec19 w p 0 (hcs h)) := hR
  have OK : Hid (∀ k, k < 13 → within h k = true) := (okH_iff h).1 hok
  have HS : Hid (∀ j, j < 16 → 0 ≤ s j ∧ s j < 256) := hs
  have H9 : Hid (Word (h 9) ∧ Word (h 10) ∧ Word (h 13)) := ⟨h9, h10, h13⟩
  clear hT hR hok h9 h10 h13 hs
  have B0 : Below w.heap.size w (w.alloc (.cells (cl .u8 16 s).toArray 106)) := (Below.refl _ _).alloc (Nat.le_refl _) _
  have R0 : IRow (w.alloc (.cells (cl .u8 16 s).toArray 106)) w.heap.size .u8 16 s := IRow.new w _ _ _ _
  go_enter Tryd.func74, Tryd.ntmps74
  go_wp2_with (first
    | (refine wpList_alloc_row rfl 90 rfl .u8 256 (w.heap.size + 1) (by simp) zero8_256 ?_; intro W1 hR1 hB1 hz1)
    | (refine wpList_alloc_row rfl 90 rfl .u8 256 (w.heap.size + 1 + 1) hz1 zero8_256 ?_; intro W2 hR2 hB2 hz2))
  have E1 : Below w.heap.size w W1 := B0.trans (hB1.mono (by omega))
  have E2 : Below w.heap.size w W2 := E1.trans (hB2.mono (by omega))
  have S2 : IRow W2 w.heap.size .u8 16 s := (R0.below (by simpa using hB1)).below (by rw [hz1]; exact hB2)
  obtain ⟨W3, hc3, hR3, hB3, hz3⟩ := copy_row W2.drew (w.heap.size + 1 + 1) 256 16 240 240 16 16 16 (some ⟨w.heap.size, 0, none⟩) s (fun _ => 0) hR2.drew (by omega) (Nat.min_eq_left (by omega)).symm (Arg.of (S2.drew.lies HS.out))
  have E3 : Below w.heap.size w W3 := E2.drew.trans (hB3.below (by omega) (by show _ ≤ W2.heap.size; omega))
  have r3 : IRow W3 (w.heap.size + 1) .u8 256 (fun _ => 0) := (hR1.below (by rw [hz1]; exact hB2)).drew.but hB3 (by omega)
  have z3 : W3.heap.size = w.heap.size + 3 := hz3.trans hz2
  clear hB3 hz3 S2 E1 E2 hR2 hB2 hz2 hR1 hB1 hz1 R0 B0
  go_region_held3 (fun w' => True) (trivial) (refine step_copy rfl (.tmp 10) (.tmp 11) 27 27 rfl _ _ rfl rfl (hc3 _) ?_)
  clear hc3
  go_wp2_with (go_at_call 80; refine (numbers_any p _).mono ?_; rintro e W4 ⟨rfl, hB4⟩)
  have E4 : Below w.heap.size w W4 := E3.trans (hB4.mono E3.size)
  have ST : Hid (mbRel w p (w.heap.size + 1) (w.heap.size + 1 + 1) h s (.int .i64 0) W4) := ⟨0, by omega, rfl, hR3.below hB4, r3.below hB4, PP.out.below E4, TT.out.below E4 hT0, E4⟩
  clear E4 E3 hR3 r3 hB4
  generalize hr : w.heap.size + 1 = r at ST ⊢
  generalize hq : r + 1 = q at ST ⊢
  go_loopw [15] (fun i wr => mbRel w p r q h s i wr) (fun i _ => 13 - (intOf i).toNat)
  case atStart => exact ST.out
  case round =>
    obtain ⟨k, hk, rfl, hQ, hr', hP, hT, hB⟩ := hrel
    clear ST TT PP
    have RQ : Hid (IRow wr q .u8 256 (laysF h s k)) := hQ
    have RR : Hid (IRow wr r .u8 256 (fun _ => 0)) := hr'
    have RP : Hid (Rec19 wr p 0 (hcs h)) := hP
    have TT : Hid (Tab wr) := hT
    have BE : Hid (Below w.heap.size w wr) := hB
    have hqw := hQ.2.2
    have hpw := hP.2.2
    have h0w := hT.2
    clear hQ hr' hP hT hB
    by_cases hlt : k < 13
    · have p1 : ∀ w, (Instr.index 128 (.agg (ptrs p).toArray) (.int .i64 k)).run Tryd.prog w = .ok (.pointer (some ⟨p, pos k, none⟩)) w := fun w => ptrs_index p w k hlt
      have c0 : wr.cell? ⟨p, pos k, none⟩ = some (.int .i64 (h (pos k))) := by have := RP.out.1 (pos k) _ (hcs_pos h k hlt); rwa [Nat.zero_add] at this
      obtain ⟨c1, _, _⟩ := TT.out.1 k hlt
      have e0 : (k : Int) < 13 := by omega
      have LAY : ∀ w', IRow w' q .u8 256 (over (laysF h s k) (fat k) 4 (byt (h (pos k)))) → But q wr.drew w' → mbRel w p r q h s (.int .i64 ((k : Int) + 1)) w' := fun w' a b => mb_step w wr w' p r q k h s hlt hp (by omega) (by omega) a RR.out RP.out TT.out BE.out hT0 b
      have LL : Hid (∀ w', IRow w' q .u8 256 (over (laysF h s k) (fat k) 4 (byt (h (pos k)))) → But q wr.drew w' → mbRel w p r q h s (.int .i64 ((k : Int) + 1)) w') := LAY
      obtain ⟨b0, b1⟩ := within_of (OK.out k hlt)
      obtain ⟨o0, o1⟩ := fat_le k hlt
      clear LAY
      generalize h (pos k) = v at c0 b0 b1 LL
      generalize pos k = x at p1 c0
      generalize fat k = o at c1 o0 o1 LL
      have wv : IntKind.u64.wrap v = v := by rw [IntKind.wrap_u64]; omega
      have o2 : (o : Int) ≤ 256 := by omega
      have o3 : ¬ 256 = o := by omega
      have o4 : ¬ 256 - o = 0 := by omega
      have o5 : (4 : Int) ≤ ((256 - o : Nat) : Int) := by omega
      go_wp2_with fail
      go_region_held3 (fun w' => w'.cell? ⟨p, x, none⟩ = some (.int .i64 v) ∧ w'.cell? ⟨0, k * 3, none⟩ = some (.int .i64 o)) (first | exact ⟨c0, c1⟩ | exact ⟨(But.cell (w := wr.drew) (b := q) (by assumption) (p := ⟨p, x, none⟩) (by show p < wr.heap.size; omega) (by show p ≠ q; omega)).trans c0, (But.cell (w := wr.drew) (b := q) (by assumption) (p := ⟨0, k * 3, none⟩) (by show 0 < wr.heap.size; omega) (by show 0 ≠ q; omega)).trans c1⟩) ((go_at_call 85; refine (mlay_any q 256 o 4 _ (laysF h s k) v _ RQ.out.drew (by omega) (by omega)).mono ?_; rintro e w' ⟨rfl, hR', hB', hz'⟩))
      go_wp2_with fail
      exact ⟨LL.out _ hR' hB', by simp [intOf]; omega⟩
    · obtain rfl : k = 13 := by omega
      obtain ⟨h9, h10, h13⟩ := H9.out
      have c9 : wr.cell? ⟨p, 9, none⟩ = some (.int .u64 (h 9)) := RP.out.1 9 _ rfl
      have c10 : wr.cell? ⟨p, 10, none⟩ = some (.int .u64 (h 10)) := RP.out.1 10 _ rfl
      clear TT OK
      rw [show ((13 : Nat) : Int) = 13 from rfl]
      go_wp2_with (first
        | (go_at_call 86; refine (bytes_cl (h 9) (h 10) _ h9 h10).mono ?_; rintro e W5 ⟨rfl, hB5⟩)
        | (refine wpList_alloc_row rfl 106 rfl .u8 16 W5.heap.size rfl zero8_16 ?_; intro W6 hR6 hB6 hz6)
        | (refine wpList_store_row rfl 106 (.tmp 8) (.tmp 35) rfl W5.heap.size .u8 16 (wide (h 9) (h 10)) (fun _ => 0) rfl rfl hR6 (by kernel_rfl) ?_; intro W7 hR7 hB7 hz7))
      have F7 : Below wr.heap.size wr W7 := (hB5.trans (hB6.mono hB5.size)).trans (hB7.below hB5.size (by have := hB5.size; omega))
      have Q7 := RQ.out.below F7
      have R7 := RR.out.below F7
      have P7 := RP.out.below F7
      have E7 : Below w.heap.size w W7 := BE.out.trans (F7.mono BE.out.size)
      obtain ⟨W8, hc8, hR8, hB8, hz8⟩ := copy_row W7.drew q 256 68 188 188 16 16 16 (some ⟨W5.heap.size, 0, none⟩) (wide (h 9) (h 10)) (laysF h s 13) Q7.drew (by omega) (Nat.min_eq_left (by omega)).symm (Arg.of (hR7.drew.lies (fun j _ => wide_byte _ _ j)))
      have R8 := R7.drew.but hB8 (by omega)
      have P8 : Rec19 W8 p 0 (hcs h) := (show Rec19 W7.drew p 0 (hcs h) from P7).but hB8 (by omega)
      have E8 : Below w.heap.size w W8 := E7.drew.trans (hB8.below (by omega) E7.size)
      have c13 : W8.cell? ⟨p, 13, none⟩ = some (.int .u64 (h 13)) := P8.1 13 _ rfl
      clear RQ RR RP BE c9 c10 hB5 hB6 hB7 F7 Q7 R7 P7 E7 hR6 hR7 hz6 hz7 hB8 hz8
      go_region_held3 (fun w' => True) (trivial) (refine step_copy rfl (.tmp 36) (.tmp 37) 27 27 rfl _ _ rfl rfl (hc8 _) ?_)
      clear hc8
      go_wp2_with fail
      go_region_held3 (fun w' => w'.cell? ⟨p, 13, none⟩ = some (.int .u64 (h 13))) (first | exact c13 | exact (But.cell (w := W8.drew) (b := q) (by assumption) (p := ⟨p, 13, none⟩) (by show p < W8.heap.size; exact P8.2.2) (by show p ≠ q; omega)).trans c13) ((go_at_call 85; refine (mlay_any q 256 92 8 _ _ (h 13) _ hR8.drew (by omega) (by omega)).mono ?_; rintro e W9 ⟨rfl, hR9, hB9, hz9⟩))
      have R9 := R8.drew.but hB9 (by omega)
      have E9 : Below w.heap.size w W9 := E8.drew.trans (hB9.below (by omega) E8.size)
      have Q9 : IRow W9 q .u8 256 (innerF h s) := hR9
      have A9 : Hid (Arg W9 (some ⟨q, 16, none⟩) 240 (fun j => innerF h s (16 + j))) := (Arg.part (Q9.lies (fun j _ => innerF_byte h s HS.out j)) 16 240 (by omega) : Arg W9 (some ⟨q, 0 + 16, none⟩) 240 _)
      clear hR8 R8 P8 E8 c13 hR9 hB9 hz9
      go_wp2_with (first
        | (go_at_call 75; refine (sum_any (some ⟨q, 16, none⟩) 240 240 _ _ A9.out (by omega) (by omega)).mono ?_; rintro e X1 ⟨rfl, hX1⟩)
        | (refine wpList_alloc_row rfl 106 rfl .u8 16 X1.heap.size rfl zero8_16 ?_; intro X2 hR2 hX2 hz2)
        | (refine wpList_store_row rfl 106 (.tmp 9) (.tmp 47) rfl X1.heap.size .u8 16 (sealF 240 (fun j => innerF h s (16 + j))) (fun _ => 0) rfl rfl hR2 (by kernel_rfl) ?_; intro X3 hR3 hX3 hz3))
      have F3 : Below W9.heap.size W9 X3 := (hX1.trans (hX2.mono hX1.size)).trans (hX3.below hX1.size (by have := hX1.size; omega))
      have Q3 := Q9.below F3
      have R3 := R9.below F3
      have E3 : Below w.heap.size w X3 := E9.trans (F3.mono E9.size)
      obtain ⟨X4, hc4, hR4, hX4, hz4⟩ := copy_row X3.drew q 256 0 256 256 16 16 16 (some ⟨X1.heap.size, 0, none⟩) (sealF 240 (fun j => innerF h s (16 + j))) (innerF h s) Q3.drew (by omega) (Nat.min_eq_left (by omega)).symm (Arg.of (hR3.drew.lies (fun j _ => sealF_byte _ _ j)))
      have R4 := R3.drew.but hX4 (by omega)
      have E4 : Below w.heap.size w X4 := E3.drew.trans (hX4.below (by omega) E3.size)
      have Q4 : IRow X4 q .u8 256 (headF h s) := hR4
      clear A9 Q9 R9 E9 F3 Q3 R3 E3 hR4 hX4 hz4 hR3 hX3 hz3 hX1 hX2 hR2 hz2
      go_region_held3 (fun w' => True) (trivial) (refine step_copy rfl (.tmp 48) (.tmp 49) 27 27 rfl _ _ rfl rfl (hc4 _) ?_)
      clear hc4
      go_wp2_with (first
        | (refine wpList_load_irow rfl 90 (.tmp 5) rfl q .u8 256 (headF h s) rfl _ Tryd.underlying90 rfl (by kernel_rfl) Q4 ?_)
        | (refine wpList_store_row rfl 90 (.tmp 4) (.tmp 51) rfl r .u8 256 (headF h s) (fun _ => 0) rfl rfl R4 (by kernel_rfl) ?_; intro X5 hR5 hX5 hz5))
      have hl := hR5.run_load 90 _ Tryd.underlying90 rfl (by kernel_rfl)
      refine bodyPost_ret (v := .agg (cl .u8 256 (headF h s)).toArray) (by simp [results, Tryd.results74, asAddr, Act.put, hl]) rfl ⟨rfl, ?_⟩
      exact E4.trans (hX5.below (by omega) E4.size)
end Go.Proofs.YtijpoipcadhchaaDoor
