/-
  The frame of the rows' proofs, not a claim by itself: pairs that came in, opened. By the verifier.
-/
import Derived.Test.YtblphlcnbnklmaaGreatDoorBCopy
import Derived.Test.YtblphlcnbnklmaaGreatDoorBArg
import Derived.Test.YtblphlcnbnklmaaGreatDoorXMb
import Derived.Test.YtblphlcnbnklmaaGreatDoorXMa
import Derived.Test.YtblphlcnbnklmaaGreatDoorXMd
import Derived.Test.YtblphlcnbnklmaaGreatDoorBFrame
namespace Go.Proofs.YtblphlcnbnklmaaGreatDoor
open Go.RowKit
/-- A byte written over. -/
def ov (x : Int) : Int := bits .xor .u8 x 90
theorem ov_ov (x : Int) (h : 0 ≤ x ∧ x < 256) : ov (ov x) = x := by
  unfold ov
  rw [u8_xor x 90 h.1 h.2 (by omega) (by omega)]
  have h1 : x.toNat ^^^ (90 : Int).toNat < 2 ^ 8 := Nat.xor_lt_two_pow (by omega) (by decide)
  rw [u8_xor _ 90 (by omega) (by omega) (by omega) (by omega), Int.toNat_natCast, Nat.xor_assoc, Nat.xor_self, Nat.xor_zero]
  omega
theorem ov_byte (x : Int) (h : 0 ≤ x ∧ x < 256) : 0 ≤ ov x ∧ ov x < 256 := by
  unfold ov
  rw [u8_xor x 90 h.1 h.2 (by omega) (by omega)]
  have h1 : x.toNat ^^^ (90 : Int).toNat < 2 ^ 8 := Nat.xor_lt_two_pow (by omega) (by decide)
  omega
/-- The first k bytes written over. -/
def ovF (F : Nat → Int) (k j : Nat) : Int := if j < k then ov (F j) else F j
theorem ovF_step (F : Nat → Int) (k : Nat) : upd (ovF F k) k (ov (F k)) = ovF F (k + 1) := by
  funext j
  unfold upd ovF
  by_cases h : j = k
  · subst h; rw [if_pos rfl, if_pos (by omega)]
  · rw [if_neg h]
    by_cases g : j < k
    · rw [if_pos g, if_pos (by omega)]
    · rw [if_neg g, if_neg (by omega)]
theorem ovF_at (F : Nat → Int) (k : Nat) : ovF F k k = F k := by unfold ovF; rw [if_neg (by omega)]
def ovRel (w : World) (g C : Nat) (F : Nat → Int) (i : Value) (wr : World) : Prop := ∃ k : Nat, k ≤ C ∧ i = .int .i64 k ∧ IRow wr g .u8 C (ovF F k) ∧ But g w wr
set_option maxRecDepth 100000 in
set_option maxHeartbeats 1000000 in
theorem over_any (g n C : Nat) (F : Nat → Int) (w : World) (h : IRow w g .u8 C F) (hn : n ≤ C) (hC : C ≤ 1000000) :
    Calls Tryz.prog 19 #[.slice (some ⟨g, 0, none⟩) n C] w fun e w' => e = .returned (.tuple #[]) ∧ IRow w' g .u8 C (fun j => ov (F j)) ∧ But g w w' := by
  have ST : Hid (ovRel w g C F (.int .i64 0) w) := ⟨0, by omega, rfl, h.congr (fun j _ => by unfold ovF; rw [if_neg (by omega)]), But.refl _ _⟩
  clear h
  have e0 : (0 : Int) ≤ (C : Int) := by omega
  have e1 : (n : Int) ≤ C := by omega
  go_enter Tryz.func19, Tryz.ntmps19
  go_wp2_with fail
  go_loopw [3] (fun i wr => ovRel w g C F i wr) (fun i _ => C - (RowKit.intOf i).toNat)
  case atStart => exact ST.out
  case round =>
    obtain ⟨k, hk, rfl, hR, hB⟩ := hrel
    clear ST
    have RR : Hid (IRow wr g .u8 C (ovF F k)) := hR
    have BE : Hid (But g w wr) := hB
    clear hB
    by_cases hlt : k < C
    · have c := hR.1 k hlt
      rw [ovF_at] at c
      have fr := hR.2.1 k
      clear hR
      have i0 : (k : Int) < C := by omega
      have i1 : (0 : Int) ≤ (k : Int) := by omega
      have eo : bits .xor .u8 (F k) 90 = ov (F k) := rfl
      go_wp2_with fail
      exact ⟨⟨k + 1, by omega, by go_num, by rw [← ovF_step]; exact RR.out.set k _, BE.out.trans (But.set _ _ _)⟩, by simp [RowKit.intOf]; omega⟩
    · obtain rfl : k = C := by omega
      clear hR
      go_wp2_with fail
      exact bodyPost_end (by simp [results, Tryz.results19, go_sem]) rfl ⟨rfl, RR.out.congr (fun j hj => by unfold ovF; rw [if_pos hj]), BE.out⟩
set_option maxHeartbeats 1000000 in
theorem over_nil (w : World) : Calls Tryz.prog 19 #[.slice none 0 0] w fun e w' => e = .returned (.tuple #[]) ∧ w' = w := by
  go_enter Tryz.func19, Tryz.ntmps19
  go_wp2_with fail
  refine wp_loop_rounds 1 ?_
  rw [rounds_succ]
  go_wp2_with fail
  exact bodyPost_end (by simp [results, Tryz.results19, go_sem]) rfl ⟨rfl, rfl⟩
end Go.Proofs.YtblphlcnbnklmaaGreatDoor
namespace Go.Proofs.YtblphlcnbnklmaaGreatDoor
open Go.RowKit
/-- The marks behind a list that is lent. -/
def mark (n m : Nat) : Int := 160 + ((n + m : Nat) : Int) % 90
/-- The bytes of a list that is lent, its room too. -/
def lentF (n : Nat) (f : Nat → Int) (m : Nat) : Nat → Int := over (over (fun _ => 0) 0 n f) n m (mark n)
theorem lentF_low (n : Nat) (f : Nat → Int) (m j : Nat) (h : j < n) : lentF n f m j = f j := by
  unfold lentF over; rw [if_neg (by omega), if_pos (by omega), Nat.sub_zero]
theorem lentF_byte (n : Nat) (f : Nat → Int) (m : Nat) (hf : ∀ j, j < n → 0 ≤ f j ∧ f j < 256) (j : Nat) : 0 ≤ lentF n f m j ∧ lentF n f m j < 256 := by
  unfold lentF over mark
  split
  · omega
  · split
    · exact hf _ (by omega)
    · exact ⟨Int.le_refl 0, by show (0 : Int) < 256; omega⟩
theorem lentF_step (n : Nat) (f : Nat → Int) (m : Nat) : upd (lentF n f m) (n + m) (mark n m) = lentF n f (m + 1) := by
  funext j
  unfold upd lentF over
  by_cases h : j = n + m
  · rw [if_pos h, if_pos (by omega), h, show n + m - n = m by omega]
  · rw [if_neg h]
    by_cases g : n ≤ j ∧ j < n + m
    · rw [if_pos g, if_pos (by omega)]
    · rw [if_neg g, if_neg (show ¬ (n ≤ j ∧ j < n + (m + 1)) by omega)]
/-- What holds at the head of the loop. -/
def lentRel (w : World) (g n : Nat) (f : Nat → Int) (i : Value) (wr : World) : Prop := ∃ m : Nat, m ≤ 3 ∧ i = .int .i64 ((n + m : Nat) : Int) ∧ IRow wr g .u8 (n + 3) (lentF n f m) ∧ Below w.heap.size w wr
theorem lent_step (w wr : World) (g n m k : Nat) (f : Nat → Int) (v : Int) (hg : w.heap.size ≤ g) (hm : m < 3) (hk : k = n + m) (hv : v = mark n m) (hR : IRow wr g .u8 (n + 3) (lentF n f m)) (hB : Below w.heap.size w wr) :
    lentRel w g n f (.int .i64 ((n : Int) + m + 1)) (wr.setCell ⟨g, k, none⟩ (.int .u8 v)) := by
  subst hk hv
  exact ⟨m + 1, by omega, by go_num, by rw [← lentF_step]; exact hR.set _ _, hB.setCell hg _⟩
set_option maxRecDepth 100000 in
set_option maxHeartbeats 1000000 in
theorem lent_any (a : Option Addr) (n C : Nat) (f : Nat → Int) (w : World) (h : Arg w a n f) (hn : n ≤ 1000000) :
    Calls Tryz.prog 11 #[.slice a n C] w fun e w' => ∃ g, e = .returned (.slice (some ⟨g, 0, none⟩) n (n + 3)) ∧ w.heap.size ≤ g ∧ IRow w' g .u8 (n + 3) (lentF n f 3) ∧ Below w.heap.size w w' := by
  have hmk : ∀ w, (Instr.makeSlice 23 (.int .i64 ((n : Int) + 3)) (.int .i64 ((n : Int) + 3))).run Tryz.prog w = .ok (.slice (some ⟨w.heap.size, 0, none⟩) (n + 3) (n + 3)) (w.alloc (.cells (zeros (n + 3)) 5)) := by
    have := make_bytes (n + 3) (by omega)
    rw [show ((n + 3 : Nat) : Int) = (n : Int) + 3 from by omega] at this
    exact this
  obtain ⟨W2, hcopy, hR2, hB2, _⟩ := copy_row (w.alloc (.cells (zeros (n + 3)) 5)) w.heap.size (n + 3) 0 (n + 3) (n + 3) n C n a f (fun _ => 0) (IRow.made w (n + 3) 5) (by omega) (Nat.min_eq_left (by omega)).symm (h.below ((Below.refl _ _).alloc (Nat.le_refl _) _))
  have ST : Hid (lentRel w w.heap.size n f (.int .i64 n) W2) := by
    refine ⟨0, by omega, rfl, hR2.congr (fun j _ => ?_), ((Below.refl _ _).alloc (Nat.le_refl _) _).trans (hB2.below (Nat.le_refl _) (by simp))⟩
    unfold lentF
    rw [show over (over (fun _ => 0) 0 n f) n 0 (mark n) j = over (fun _ => 0) 0 n f j from by rw [over, if_neg (by omega)]]
  clear hR2 hB2 h
  have wr1 : wrap64 ((n : Int) + 3) = (n : Int) + 3 := by unfold wrap64; omega
  go_enter Tryz.func11, Tryz.ntmps11
  go_wp2_with (at_builtin; refine wpList_copy_go rfl (.tmp 9) (.tmp 10) 23 23 rfl _ _ rfl rfl hcopy ?_)
  clear hmk hcopy
  go_loopw [4] (fun i wr => lentRel w w.heap.size n f i wr) (fun i _ => n + 3 - (RowKit.intOf i).toNat)
  case atStart => exact ST.out
  case round =>
    obtain ⟨m, hm, rfl, hR, hB⟩ := hrel
    clear ST
    have BE : Hid (Below w.heap.size w wr) := hB
    have RR : Hid (IRow wr w.heap.size .u8 (n + 3) (lentF n f m)) := hR
    clear hB
    by_cases hlt : m < 3
    · have gk := hR.1 (n + m) (by omega)
      have fk := hR.2.1 (n + m)
      clear hR
      have e0 : ((n + m : Nat) : Int) = (n : Int) + m := by omega
      have e1 : (n : Int) + m < (n : Int) + 3 := by omega
      have e2 : (0 : Int) ≤ (n : Int) + m := by omega
      have e3 : ((n : Int) + m).toNat = n + m := by omega
      have e4 : IntKind.u8.wrap (160 + ((n : Int) + m) % 90) = 160 + ((n : Int) + m) % 90 := by rw [IntKind.wrap_u8]; omega
      have e5 : wrap64 (160 + ((n : Int) + m) % 90) = 160 + ((n : Int) + m) % 90 := by unfold wrap64; omega
      have e6 : wrap64 ((n : Int) + m + 1) = (n : Int) + m + 1 := by unfold wrap64; omega
      go_wp2_with fail
      refine ⟨lent_step w wr w.heap.size n m _ f _ (Nat.le_refl _) hlt rfl ?_ RR.out BE.out, by simp [RowKit.intOf]; omega⟩
      unfold mark
      rw [e0]
    · obtain rfl : m = 3 := by omega
      clear hR
      have e0 : ((n + 3 : Nat) : Int) = (n : Int) + 3 := by omega
      go_wp2_with fail
      go_ret
      exact ⟨_, rfl, Nat.le_refl _, RR.out, BE.out⟩
set_option maxRecDepth 100000 in
set_option maxHeartbeats 1000000 in
theorem kept_any (g : Nat) (a : Option Addr) (n C : Nat) (f : Nat → Int) (w : World) (h : Arg w a n f) (hn : n ≤ 1000000) (hR : IRow w g .u8 (n + 3) (lentF n f 3)) :
    Calls Tryz.prog 17 #[.slice (some ⟨g, 0, none⟩) n (n + 3), .slice a n C] w fun e w' => e = .returned (.bool true) ∧ Below w.heap.size w w' := by
  have HA : Hid (Arg w.drew a n f) := h
  have HR : Hid (IRow w g .u8 (n + 3) (lentF n f 3)) := hR
  have FB : Hid (∀ j, j < n + 3 → 0 ≤ lentF n f 3 j ∧ lentF n f 3 j < 256) := fun j _ => lentF_byte n f 3 h.bytes j
  clear h hR
  have wr1 : wrap64 ((n : Int) + 3) = (n : Int) + 3 := by unfold wrap64; omega
  have wr2 : IntKind.i64.wrap ((n : Int) + 3) = (n : Int) + 3 := by rw [IntKind.wrap_i64]; omega
  have e1 : ((n + 3 : Nat) : Int) = (n : Int) + 3 := by omega
  have e2 : ((n : Int) + 3).toNat = n + 3 := by omega
  have e3 : (0 : Int) ≤ (n : Int) + 3 := by omega
  go_enter Tryz.func17, Tryz.ntmps17
  go_wp2_with fail
  go_region_held3 (fun w' => True) (trivial)
    (first
      | (go_at_call 11; refine (lent_any a n C f _ HA.out hn).mono ?_; rintro e w1 ⟨g1, rfl, hg1, hR1, hB1⟩)
      | (go_at_call 18; refine (same_any (some ⟨g, 0, none⟩) _ (n + 3) (n + 3) _ _ (lentF n f 3) (lentF n f 3) _ (Arg.of ((HR.out.drew.below (by assumption)).lies FB.out)) (Arg.of ((by assumption : IRow _ _ .u8 (n + 3) (lentF n f 3)).lies FB.out))).mono ?_; rintro e w2 ⟨rfl, hw⟩; rw [hw, decide_eq_true rfl]; clear hw))
  go_wp2_with fail
  go_ret
  exact ⟨rfl, (Below.refl _ _).drew.trans (by assumption)⟩
end Go.Proofs.YtblphlcnbnklmaaGreatDoor
namespace Go.Proofs.YtblphlcnbnklmaaGreatDoor
open Go.RowKit
attribute [-go_sem] Builtin.append_
theorem own_one (W : World) (c : Int) : Own (W.alloc (.cells #[.int .u8 c] 5)) W.heap.size (.slice (some ⟨W.heap.size, 0, none⟩) 1 1) 1 (fun _ => c) := Own.lit W W.heap.size 1 (fun _ => c) (Nat.le_refl _) (by decide)
theorem cat_zero (F G : Nat → Int) : cat F 0 G = G := by
  funext j
  unfold cat
  rw [if_neg (by omega), Nat.sub_zero]
theorem pbt_eq (kn vn : Nat) (fk fv : Nat → Int) : pbF kn fk vn fv true = cat (cat (fun _ => (kn : Int) % 256) 1 fk) (1 + kn) (fun _ => 255) ∧ pbN kn vn true = 1 + kn + 1 := by
  constructor
  · unfold pbF ltF
    rw [cat_zero, Nat.zero_add, if_pos rfl]
  · unfold pbN
    rw [Nat.zero_add, if_pos rfl]
theorem pbf_eq (kn vn : Nat) (fk fv : Nat → Int) : pbF kn fk vn fv false = cat (cat (cat (fun _ => (kn : Int) % 256) 1 fk) (1 + kn) (fun _ => (vn : Int) % 256)) (1 + kn + 1) fv ∧ pbN kn vn false = 1 + kn + 1 + vn := by
  constructor
  · unfold pbF ltF
    rw [cat_zero, Nat.zero_add, if_neg (by decide)]
  · unfold pbN
    rw [Nat.zero_add, if_neg (by decide)]
set_option maxRecDepth 100000 in
set_option maxHeartbeats 1000000 in
theorem xbytes_ok (W : World) (ka va : Option Addr) (kn vn kC vC : Nat) (fk fv : Nat → Int) (g : Bool) (hk : AB W.heap.size W ka kn fk) (hv : AB W.heap.size W va vn fv) (hn : kn ≤ 1000 ∧ vn ≤ 1000) : Calls Tryz.prog 52 #[.agg #[.slice ka kn kC, .slice va vn vC, .bool g]] W (LtP W W.heap.size (pbN kn vn g) (pbF kn fk vn fv g)) := by
  have HK := hidIt hk
  have HV := hidIt hv
  have HN := hidIt hn
  clear hk hv hn
  cases g with
  | true =>
    obtain ⟨e1, e2⟩ := pbt_eq kn vn fk fv
    rw [e1, e2]
    clear e1 e2
    go_enter Tryz.func52, Tryz.ntmps52
    go_wp2_with (refine wpList_box_rec rfl 78 (.tmp 0) rfl [.slice ka kn kC, .slice va vn vC, .bool true] rfl W.heap.size rfl ?_; intro W1 R1 B1 z1; have E1 := hidIt B1; have P1 := hidIt R1; clear R1 B1 z1; refine Held.out ?_)
    have c0 := (P1.out.cel 0 _ rfl).1
    have A2 : Below W1.heap.size W1 (W1.alloc (.cells #[.int .u8 ((kn : Int) % 256)] 5)) := (Below.refl _ _).alloc (Nat.le_refl _) _
    have d0 := ((P1.out.below A2).cel 0 _ rfl).1
    obtain ⟨v3, W3, hr3, o3, b3⟩ := app_arg 23 _ W1.heap.size 1 kn kC _ ka _ fk (own_one W1 ((kn : Int) % 256)) (HK.out.below (E1.out.trans (A2.mono E1.out.size))).1 (by have := HN.out.1; omega) A2.size
    obtain ⟨xa, xn, xC, rfl⟩ := own_sl o3
    have E3 := hidIt (E1.out.trans ((A2.trans b3).mono E1.out.size))
    have c2 := ((P1.out.below (A2.trans b3)).cel 2 _ rfl).1
    have A4 : Below W3.heap.size W3 (W3.alloc (.cells #[.int .u8 255] 5)) := (Below.refl _ _).alloc (Nat.le_refl _) _
    obtain ⟨v5, W5, hr5, o5, b5⟩ := app_arg 23 _ W1.heap.size (1 + kn) 1 1 (.slice xa xn xC) _ _ _ (o3.below A4) (lit_arg W3 255 (by decide)) (by have := HN.out.1; omega) (Nat.le_trans (A2.trans b3).size A4.size)
    obtain ⟨za, zn, zC, rfl⟩ := own_sl o5
    have FIN : Hid (LtP W W.heap.size (1 + kn + 1) (cat (cat (fun _ => (kn : Int) % 256) 1 fk) (1 + kn) (fun _ => 255)) (.returned (.slice za zn zC)) W5) := hidIt ⟨za, zn, zC, rfl, own_low o5 E1.out.size, E3.out.trans ((A4.mono E3.out.size).trans (b5.mono E1.out.size))⟩
    clear A2 o3 b3 A4 o5 b5
    refine Held.mk ?_
    go_wp2_with fail
    exact bodyPost_ret (v := .slice za zn zC) (by simp [results, Tryz.results52, go_sem]) rfl FIN.out
  | false =>
    obtain ⟨e1, e2⟩ := pbf_eq kn vn fk fv
    rw [e1, e2]
    clear e1 e2
    go_enter Tryz.func52, Tryz.ntmps52
    go_wp2_with (refine wpList_box_rec rfl 78 (.tmp 0) rfl [.slice ka kn kC, .slice va vn vC, .bool false] rfl W.heap.size rfl ?_; intro W1 R1 B1 z1; have E1 := hidIt B1; have P1 := hidIt R1; clear R1 B1 z1; refine Held.out ?_)
    have c0 := (P1.out.cel 0 _ rfl).1
    have A2 : Below W1.heap.size W1 (W1.alloc (.cells #[.int .u8 ((kn : Int) % 256)] 5)) := (Below.refl _ _).alloc (Nat.le_refl _) _
    have d0 := ((P1.out.below A2).cel 0 _ rfl).1
    obtain ⟨v3, W3, hr3, o3, b3⟩ := app_arg 23 _ W1.heap.size 1 kn kC _ ka _ fk (own_one W1 ((kn : Int) % 256)) (HK.out.below (E1.out.trans (A2.mono E1.out.size))).1 (by have := HN.out.1; omega) A2.size
    obtain ⟨xa, xn, xC, rfl⟩ := own_sl o3
    have E3 := hidIt (E1.out.trans ((A2.trans b3).mono E1.out.size))
    have P3 := hidIt (P1.out.below (A2.trans b3))
    have O3 := hidIt (And.intro o3 (A2.trans b3).size)
    have B3 := hidIt (A2.trans b3)
    have c2 := (P3.out.cel 2 _ rfl).1
    clear A2 o3 b3
    refine Held.mk ?_
    go_wp2_with fail
    clear c0 d0 hr3 c2
    have D3 : Below W3.heap.size W3 W3.drew := (Below.refl _ _).drew
    refine wp_region_noPanic ?_
    refine wp_region_held_drew (S := fun w' => w'.cell? ⟨W.heap.size, 1, none⟩ = some (.slice va vn vC)) (by kernel_rfl) ?_ (fun hHeld => ?_)
    · exact ((P3.out.below D3).cel 1 _ rfl).1
    have A4 : Below W3.drew.heap.size W3.drew (W3.drew.alloc (.cells #[.int .u8 ((vn : Int) % 256)] 5)) := (Below.refl _ _).alloc (Nat.le_refl _) _
    have D4 := D3.trans (A4.mono D3.size)
    obtain ⟨v5, W5, hr5, o5, b5⟩ := app_arg 23 _ W1.heap.size (1 + kn) 1 1 (.slice xa xn xC) _ _ _ ((O3.out.1.below D3).below A4) (lit_arg W3.drew ((vn : Int) % 256) (by omega)) (by have := HN.out.1; omega) (Nat.le_trans O3.out.2 D4.size)
    have E5 := E3.out.trans ((D4.mono E3.out.size).trans (b5.mono E1.out.size))
    have B5 := B3.out.trans ((D4.mono B3.out.size).trans b5)
    have P5 := P1.out.below B5
    obtain ⟨v6, W6, hr6, o6, b6⟩ := app_arg 23 W5 W1.heap.size (1 + kn + 1) vn vC v5 va _ fv o5 (HV.out.below E5).1 (by have := HN.out; omega) (Nat.le_trans O3.out.2 (Nat.le_trans D4.size b5.size))
    obtain ⟨za, zn, zC, rfl⟩ := own_sl o6
    have FIN : Hid (LtP W W.heap.size (1 + kn + 1 + vn) (cat (cat (cat (fun _ => (kn : Int) % 256) 1 fk) (1 + kn) (fun _ => (vn : Int) % 256)) (1 + kn + 1) fv) (.returned (.slice za zn zC)) W6) := hidIt ⟨za, zn, zC, rfl, own_low o6 E1.out.size, E5.trans (b6.mono E1.out.size)⟩
    refine take_at (i := 0) (v := ?_) (some 17) rfl rfl (by kernel_rfl) (by kernel_rfl) (by kernel_rfl) (fun _ _ _ h => h) (Or.inl ⟨by rfl, ?_⟩) (by assumption) ?_
    rotate_left
    · (intro w hSw; (try dsimp only at hSw); go_simp; try with_reducible rfl)
    simp only [Act.put, List.setIfInBounds_toArray, List.set_cons_zero, List.set_cons_succ]
    refine take_at (i := 1) (v := ?_) (some 18) rfl rfl (by kernel_rfl) (by kernel_rfl) (by kernel_rfl) (fun _ _ _ h => h) (Or.inl ⟨by rfl, ?_⟩) (by assumption) ?_
    rotate_left
    · (intro w hSw; (try dsimp only at hSw); go_simp; try with_reducible rfl)
    simp only [Act.put, List.setIfInBounds_toArray, List.set_cons_zero, List.set_cons_succ]
    refine take_at (i := 2) (v := ?_) (some 19) rfl rfl (by kernel_rfl) (by kernel_rfl) (by kernel_rfl) (fun _ _ _ h => h) (Or.inl ⟨by rfl, ?_⟩) (by assumption) ?_
    rotate_left
    · (intro w hSw; (try dsimp only at hSw); go_simp; try with_reducible rfl)
    simp only [Act.put, List.setIfInBounds_toArray, List.set_cons_zero, List.set_cons_succ]
    refine take_at (i := 3) (v := ?_) (some 20) rfl rfl (by kernel_rfl) (by kernel_rfl) (by kernel_rfl) (fun _ _ _ h => h) (Or.inl ⟨by rfl, ?_⟩) (by assumption) ?_
    rotate_left
    · (intro w hSw; (try dsimp only at hSw); go_simp; try with_reducible rfl)
    simp only [Act.put, List.setIfInBounds_toArray, List.set_cons_zero, List.set_cons_succ]
    refine take_at (i := 4) (v := ?_) (some 21) rfl rfl (by kernel_rfl) (by kernel_rfl) (by kernel_rfl) (fun _ _ _ h => h) (Or.inl ⟨by rfl, ?_⟩) (by assumption) ?_
    rotate_left
    · (intro w hSw; (try dsimp only at hSw); go_simp; try with_reducible rfl)
    simp only [Act.put, List.setIfInBounds_toArray, List.set_cons_zero, List.set_cons_succ]
    refine take_at (i := 7) (v := ?_) (some 24) rfl rfl (by kernel_rfl) (by kernel_rfl) (by kernel_rfl) (fun _ _ _ h => h) (Or.inl ⟨by rfl, ?_⟩) (by assumption) ?_
    rotate_left
    · (intro w hSw; (try dsimp only at hSw); go_simp; try with_reducible rfl)
    simp only [Act.put, List.setIfInBounds_toArray, List.set_cons_zero, List.set_cons_succ]
    refine take_at (i := 8) (v := ?_) (some 25) rfl rfl (by kernel_rfl) (by kernel_rfl) (by kernel_rfl) (fun _ _ _ h => h) (Or.inl ⟨by rfl, ?_⟩) (by assumption) ?_
    rotate_left
    · (intro w hSw; (try dsimp only at hSw); go_simp; try with_reducible rfl)
    simp only [Act.put, List.setIfInBounds_toArray, List.set_cons_zero, List.set_cons_succ]
    refine step_at (i := 5) (some 22) rfl rfl (by rfl) (by kernel_rfl) (.slice (some ⟨W3.drew.heap.size, 0, none⟩) 1 1) (W3.drew.alloc (.cells #[.int .u8 ((vn : Int) % 256)] 5)) (bsl_run 23 5 1 _ rfl 1 1 _ #[.int .u8 ((vn : Int) % 256)] [(0, .int .u8 ((vn : Int) % 256))] Tryz.underlying23 info_u8 (by decide) (by decide) (by simp [Act.eval, IntKind.wrap_u8]) (by kernel_rfl)) ((P3.out.below D4).cel 1 _ rfl).1 (fun hHeld => ?_)
    simp only [Act.put, List.setIfInBounds_toArray, List.set_cons_zero, List.set_cons_succ]
    refine step_at (i := 6) (some 23) rfl rfl (by rfl) (by kernel_rfl) v5 W5 (xapp_run (.tmp 17) (.tmp 22) 23 23 rfl _ _ rfl rfl hr5) (P5.cel 1 _ rfl).1 (fun hHeld => ?_)
    simp only [Act.put, List.setIfInBounds_toArray, List.set_cons_zero, List.set_cons_succ]
    refine step_at (i := 9) (some 26) rfl rfl (by rfl) (by kernel_rfl) (.slice za zn zC) W6 (xapp_run (.tmp 23) (.tmp 25) 23 23 rfl _ _ rfl rfl hr6) ((P1.out.below (B5.trans b6)).cel 1 _ rfl).1 (fun hHeld => ?_)
    simp only [Act.put, List.setIfInBounds_toArray, List.set_cons_zero, List.set_cons_succ]
    clear hr5 hr6 o5 o6 b5 b6 A4 D4 D3 E5 P5 B5
    refine take_at (i := 10) (v := ?_) (some 2) rfl rfl (by kernel_rfl) (by kernel_rfl) (by kernel_rfl) (fun _ _ _ h => h) (Or.inl ⟨by rfl, ?_⟩) (by assumption) ?_
    rotate_left
    · (intro w hSw; (try dsimp only at hSw); go_simp; try with_reducible rfl)
    simp only [Act.put, List.setIfInBounds_toArray, List.set_cons_zero, List.set_cons_succ]
    refine wpAnyH_done (by kernel_rfl) ?_ _
    refine NoPanic.normal ?_
    clear hHeld
    go_wp2_with fail
    exact bodyPost_ret (v := .slice za zn zC) (by simp [results, Tryz.results52, go_sem]) rfl FIN.out
theorem xbytes_any {W : World} {N : List Nat} {x : PV} (h : PVOk W N x) (hm : may x.p) : Calls Tryz.prog 52 #[.agg x.cs.toArray] W (PbP W x.p) := by
  obtain ⟨k, v, p⟩ := x
  obtain ⟨⟨ka, kC, fk, hk, hka, hkt, _⟩, va, vC, fv, hv, hva, hvt, _⟩ := h
  simp only at hk hv hka hva hkt hvt hm
  subst hk hv
  have pn := pb_nF p hm fk fv (tx_fun p.k fk hka.bytes hkt) (tx_fun p.v fv hva.bytes hvt)
  have ps := pb_small hm
  refine (xbytes_ok W ka va p.k.size p.v.size kC vC fk fv p.g (ab_of hka) (ab_of hva) ⟨by have := hm.2.1; omega, by have := hm.2.2; split at this <;> omega⟩).mono ?_
  rintro e w' ⟨a, n, C, rfl, hO, hB⟩
  rw [← pbL_len] at hO pn
  obtain ⟨g, cap, hv, hg, _, hL⟩ := (hO.congr pn).form (by omega) (nF_byte _ (pb_bytes hm))
  injection hv with h1 h2 h3
  subst h1 h2 h3
  exact ⟨g, C, rfl, hL, hg, hB⟩
end Go.Proofs.YtblphlcnbnklmaaGreatDoor
namespace Go.Proofs.YtblphlcnbnklmaaGreatDoor
open Go.RowKit
/-- The bodies that are full, and the last one. -/
structure PkL (W : World) (base : Nat) (fv lv : Value) (ds : List BV) (cur : List Int) : Prop where
  own : W.ownsRow base 23 1 fv (ds.map BV.v).length (ds.map BV.v)
  lst : Own W base lv cur.length (nF cur)
  bd : ∀ x ∈ ds, BVOk W base (fv.ownBlock.toList ++ lv.ownBlock.toList) x
  ne : ∀ g, fv.ownBlock = some g → lv.ownBlock ≠ some g
  byt : ∀ x ∈ cur, 0 ≤ x ∧ x < 256
  few : ds.length ≤ 1000 ∧ cur.length ≤ 1000
theorem PkL.below {W W' : World} {base : Nat} {fv lv : Value} {ds : List BV} {cur : List Int} (h : PkL W base fv lv ds cur) (hB : Below W.heap.size W W') : PkL W' base fv lv ds cur := by
  refine ⟨row_off h.own (Off.of (bs := []) hB) (fun _ _ q => by cases q), h.lst.below hB, fun x hx => ?_, h.ne, h.byt, h.few⟩
  obtain ⟨b, C, h1, h2, h3, h4, h5⟩ := h.bd x hx
  exact ⟨b, C, h1, h2, h3.below hB, h4, h5⟩
theorem off_lo {W W' : World} {base : Nat} {v : Value} (hO : Off v.ownBlock.toList W W') (hv : ∀ g, v.ownBlock = some g → base ≤ g) (hb : base ≤ W.heap.size) : Below base W W' := hO.below (fun b hb => hv b (mem_own hb)) hb
/-- Bytes are put behind the last body. -/
theorem PkL.app {W : World} {base : Nat} {fv lv : Value} {ds : List BV} {cur R : List Int} (h : PkL W base fv lv ds cur) (ty : TypeId) (b C : Nat) (hA : Lies W b 0 R.length (nF R)) (h0 : 0 < R.length) (hm : cur.length + R.length ≤ 1000) (hR : ∀ x ∈ R, 0 ≤ x ∧ x < 256) (hb : base ≤ W.heap.size) :
    ∃ v' W1, (Builtin.append_ #[23, 23] ty #[lv, .slice (some ⟨b, 0, none⟩) R.length C]).run Tryz.prog W = .ok v' W1 ∧ PkL W1 base fv v' ds (cur ++ R) ∧ Below base W W1 := by
  obtain ⟨v', W1, hr, hO, hoff, hblk, _⟩ := app_nF ty W base C b 0 lv cur R h.lst hA h0 hb (by omega)
  have hB := off_lo hoff (fun g hg => (own_blk h.lst hg).1) hb
  refine ⟨v', W1, hr, ⟨row_off h.own hoff (fun g hg q => h.ne g hg (mem_own q)), hO, fun x hx => ?_, fun g hg q => ?_, fun x hx => ?_, h.few.1, by rw [List.length_append]; exact hm⟩, hB⟩
  · have a := h.bd x hx
    obtain ⟨b', C', h1, h2, h3, h4, h5⟩ := a
    have n1 : b' ∉ lv.ownBlock.toList := fun q => h5 (List.mem_append.2 (.inr q))
    refine ⟨b', C', h1, h2, ⟨fun j hj => (hoff.cell (p := ⟨b', 0 + j, none⟩) h3.2.2 n1).trans (h3.1 j hj), h3.2.1, Nat.lt_of_lt_of_le h3.2.2 hoff.size⟩, h4, fun q => ?_⟩
    rcases List.mem_append.1 q with q | q
    · exact h5 (List.mem_append.2 (.inl q))
    · rcases hblk b' (mem_own q) with z | z
      · exact n1 (own_mem z)
      · have := h3.2.2; omega
  · rcases hblk g q with z | z
    · exact h.ne g hg z
    · have := (World.ownsRow.lt h.own g hg).2; omega
  · rcases List.mem_append.1 hx with hx | hx
    · exact h.byt x hx
    · exact hR x hx
/-- The last body is full. -/
theorem PkL.full {W : World} {base : Nat} {fv lv : Value} {ds : List BV} {cur : List Int} (h : PkL W base fv lv ds cur) (ty : TypeId) (hc : cur ≠ []) (hd : ds.length < 1000) (hb : base ≤ W.heap.size) :
    ∃ v' W1, (Builtin.append_ #[27, 27] ty #[fv, .slice (some ⟨W.heap.size, 0, none⟩) 1 1]).run Tryz.prog (W.alloc (.cells #[lv] 23)) = .ok v' W1 ∧ PkL W1 base v' (.slice none 0 0) (ds ++ [⟨lv, cur⟩]) [] ∧ Below base W W1 ∧ Off fv.ownBlock.toList W W1 := by
  have n0 : 0 < cur.length := List.length_pos_iff.2 hc
  obtain ⟨lg, lc, hlv, hlb, hlc, hll⟩ := h.lst.form n0 (nF_byte cur h.byt)
  have hlo : lv.ownBlock = some lg := by rw [hlv]; rfl
  have A : Below W.heap.size W (W.alloc (.cells #[lv] 23)) := (Below.refl _ _).alloc (Nat.le_refl _) _
  have hA := h.below A
  have hcell : (W.alloc (.cells #[lv] 23)).cell? ⟨W.heap.size, 0, none⟩ = some lv := by rw [World.cell?_alloc_at (w := W) _ _ W.heap.size 0 rfl]; rfl
  obtain ⟨v', W1, hr, hI⟩ := app_vs ty (W.alloc (.cells #[lv] 23)) base fv (ds.map BV.v) [lv] ⟨W.heap.size, 0, none⟩ 1 1 hA.own (fun j u hj => by
    cases j with
    | zero => injection hj with hj; subst hj; rw [Addr.add_mid]; exact hcell
    | succ j => cases hj) (fun u hu => by rw [List.mem_singleton.1 hu, hlv]; rfl) rfl (by decide) (Nat.le_trans hb A.size) (by have := h.few.1; simp; omega)
  have hoff := hI.off
  have hblk : ∀ g, v'.ownBlock = some g → fv.ownBlock = some g ∨ W.heap.size ≤ g := fun g hg => by
    rcases hI.blk g hg with q | q
    · exact .inl q
    · exact .inr (Nat.le_trans A.size q)
  have hB := off_lo hoff (fun g hg => (World.ownsRow.lt hA.own g hg).1) (Nat.le_trans hb A.size)
  refine ⟨v', W1, hr, ⟨?_, Own.nil _ _ _, fun x hx => ?_, fun g hg => (by intro q; cases q), fun x hx => (by cases hx), by simp; omega⟩, (A.mono hb).trans hB, (Off.of A).trans hoff⟩
  · rw [List.map_append]
    exact hI.own
  · rcases List.mem_append.1 hx with hx | hx
    · obtain ⟨b', C', h1, h2, h3, h4, h5⟩ := hA.bd x hx
      have n1 : b' ∉ fv.ownBlock.toList := fun q => h5 (List.mem_append.2 (.inl q))
      refine ⟨b', C', h1, h2, ⟨fun j hj => (hoff.cell (p := ⟨b', 0 + j, none⟩) h3.2.2 n1).trans (h3.1 j hj), h3.2.1, Nat.lt_of_lt_of_le h3.2.2 hoff.size⟩, h4, fun q => ?_⟩
      rcases List.mem_append.1 q with q | q
      · rcases hI.blk b' (mem_own q) with z | z
        · exact n1 (own_mem z)
        · have := h3.2.2; omega
      · cases q
    · rw [List.mem_singleton.1 hx]
      have m1 : lg ∉ fv.ownBlock.toList := fun q => h.ne _ (mem_own q) hlo
      refine ⟨lg, lc, hlv, hlc, ⟨fun j hj => (hoff.cell (p := ⟨lg, 0 + j, none⟩) (Nat.lt_of_lt_of_le hll.2.2 A.size) m1).trans ((hll.below A).1 j hj), hll.2.1, Nat.lt_of_lt_of_le hll.2.2 (Nat.le_trans A.size hoff.size)⟩, hlb, fun q => ?_⟩
      rcases List.mem_append.1 q with q | q
      · rcases hI.blk lg (mem_own q) with z | z
        · exact m1 (own_mem z)
        · have := (hll.below A).2.2; omega
      · cases q
/-- What holds at the head of Pack's loop. -/
def RkI (W : World) (ls : List Pr) (k : Nat) (fv lv : Value) (wr : World) : Prop := Below W.heap.size W wr ∧ (∀ j p, j < k → ls[j]? = some p → may p) ∧ ∃ (ds : List BV) (dl : List (List Pr)) (cp : List Pr), PkL wr W.heap.size fv lv ds (bodL cp) ∧ ds.map BV.L = dl.map bodL ∧ (bodL cp).length ≤ 860 ∧ dl ++ packG cp (ls.drop k) = packG [] ls ∧ (k = 0 ∨ cp ≠ []) ∧ ds.length ≤ k
/-- What Pack answers. -/
def PcR (W : World) (l : List Pr) (e : Ending) (w' : World) : Prop := Below W.heap.size W w' ∧ ((Good l ∧ ∃ (a : Option Addr) (m C : Nat) (bs : List BV), e = .returned (.tuple #[.slice a m C, .int .i64 0]) ∧ Bods w' W.heap.size l a m C bs) ∨ (¬ Good l ∧ e = .returned (.tuple #[.slice none 0 0, .int .i64 2])))
theorem rk_start (W W2 : World) (ls : List Pr) (hB : Below W.heap.size W W2) : RkI W ls 0 (.slice none 0 0) (.slice none 0 0) W2 :=
  ⟨hB, fun j p hj => (by omega), [], [], [], ⟨World.ownsRow_nil _ _ _ _, Own.nil _ _ _, fun x hx => (by cases hx), fun g hg => (by cases hg), fun x hx => (by cases hx), by simp [bodL]⟩, rfl, by simp [bodL], by simp, .inl rfl, by simp⟩
/-- A pair is put behind, which the last body has room for. -/
theorem RkI.more {W W' : World} {ls : List Pr} {k : Nat} {p : Pr} {ds : List BV} {dl : List (List Pr)} {cp : List Pr} {fv lv' : Value} (hp : ls[k]? = some p) (hm : may p) (hB : Below W.heap.size W W') (ha : ∀ j p, j < k → ls[j]? = some p → may p) (h2 : ds.map BV.L = dl.map bodL) (h4 : dl ++ packG cp (ls.drop k) = packG [] ls) (h6 : ds.length ≤ k) (hc : ¬ 860 < (bodL cp).length + (pbL p).length) (hS : PkL W' W.heap.size fv lv' ds (bodL cp ++ pbL p)) : RkI W ls (k + 1) fv lv' W' := by
  have hk : k < ls.length := (List.getElem?_eq_some_iff.1 hp).1
  have hdr : ls.drop k = p :: ls.drop (k + 1) := by
    rw [List.drop_eq_getElem_cons hk]
    congr 1
    rw [List.getElem?_eq_getElem hk] at hp
    injection hp
  rw [hdr] at h4
  refine ⟨hB, fun j q hj hq => ?_, ds, dl, cp ++ [p], by rw [bodL_app, bodL_one]; exact hS, h2, by rw [bodL_app, bodL_one, List.length_append]; omega, ?_, .inr (by simp), by omega⟩
  · by_cases e : j = k
    · subst e; rw [hp] at hq; injection hq with hq; subst hq; exact hm
    · exact ha j q (by omega) hq
  · rw [← h4]
    show _ = dl ++ (if 860 < (bodL cp).length + (pbL p).length then cp :: packG [p] (ls.drop (k + 1)) else packG (cp ++ [p]) (ls.drop (k + 1)))
    rw [if_neg hc]
/-- A pair is put into a body of its own. -/
theorem RkI.anew {W W' : World} {ls : List Pr} {k : Nat} {p : Pr} {ds ds' : List BV} {dl : List (List Pr)} {cp : List Pr} {fv lv' : Value} (hp : ls[k]? = some p) (hm : may p) (hB : Below W.heap.size W W') (ha : ∀ j p, j < k → ls[j]? = some p → may p) (h2 : ds.map BV.L = dl.map bodL) (h4 : dl ++ packG cp (ls.drop k) = packG [] ls) (h6 : ds.length ≤ k) (hc : 860 < (bodL cp).length + (pbL p).length) (hd : ds'.map BV.L = ds.map BV.L ++ [bodL cp]) (hS : PkL W' W.heap.size fv lv' ds' ([] ++ pbL p)) : RkI W ls (k + 1) fv lv' W' := by
  have hk : k < ls.length := (List.getElem?_eq_some_iff.1 hp).1
  have hdr : ls.drop k = p :: ls.drop (k + 1) := by
    rw [List.drop_eq_getElem_cons hk]
    congr 1
    rw [List.getElem?_eq_getElem hk] at hp
    injection hp
  have ps := pb_small hm
  have hl := congrArg List.length hd
  simp at hl
  rw [hdr] at h4
  refine ⟨hB, fun j q hj hq => ?_, ds', dl ++ [cp], [p], by rw [bodL_one]; exact hS, ?_, by rw [bodL_one]; omega, ?_, .inr (by simp), by omega⟩
  · by_cases e : j = k
    · subst e; rw [hp] at hq; injection hq with hq; subst hq; exact hm
    · exact ha j q (by omega) hq
  · rw [hd, h2]; simp
  · rw [← h4]
    show _ = dl ++ (if 860 < (bodL cp).length + (pbL p).length then cp :: packG [p] (ls.drop (k + 1)) else packG (cp ++ [p]) (ls.drop (k + 1)))
    rw [if_pos hc, List.append_assoc]
    rfl
theorem bod_ne {cp : List Pr} (hc : cp ≠ []) : bodL cp ≠ [] := by
  obtain ⟨q, r, rfl⟩ := List.exists_cons_of_ne_nil hc
  intro z
  have h1 : bodL (q :: r) = pbL q ++ bodL r := rfl
  rw [z] at h1
  have h2 := congrArg List.length h1
  have h3 : (pbL q).length = pbN q.k.size q.v.size q.g := pbL_len q
  rw [List.length_append, h3] at h2
  unfold pbN at h2
  simp only [List.length_nil] at h2
  omega
/-- The last body is put behind the others, and all is told. -/
theorem rk_end {W wr : World} {ls : List Pr} {n : Nat} {fv lv : Value} (h : RkI W ls n fv lv wr) (hn : ls.length = n) (h1 : 1 ≤ n) (h2 : n ≤ 64) (hs : Chn ls) : ∃ la m lc xa xn xC W1, lv = .slice la m lc ∧ (Builtin.append_ #[27, 27] 27 #[fv, .slice (some ⟨wr.heap.size, 0, none⟩) 1 1]).run Tryz.prog (wr.alloc (.cells #[lv] 23)) = .ok (.slice xa xn xC) W1 ∧ PcR W ls (.returned (.tuple #[.slice xa xn xC, .int .i64 0])) W1 := by
  obtain ⟨hB, ha, ds, dl, cp, hS, hd, hc, hp, hk, hl⟩ := h
  rw [← hn, List.drop_length] at hp
  have hcp : cp ≠ [] := by rcases hk with q | q; (· omega); (· exact q)
  obtain ⟨la, lc, hlv⟩ := own_slN hS.lst
  obtain ⟨v', W1, hr, hF, hB1, _⟩ := hS.full 27 (bod_ne hcp) (by omega) hB.size
  obtain ⟨xa, xC, rfl⟩ := row_slN hF.own
  have al : ∀ p ∈ ls, may p := fun p hp => by
    obtain ⟨j, hj, rfl⟩ := List.getElem_of_mem hp
    exact ha j _ (by omega) (List.getElem?_eq_getElem hj)
  have own := hF.own
  have bd := hF.bd
  refine ⟨la, _, lc, xa, _, xC, W1, hlv, hr, hB.trans hB1, .inl ⟨⟨by omega, by omega, hs, al⟩, xa, _, xC, ds ++ [⟨lv, bodL cp⟩], rfl, by rw [List.length_map], by simpa using own, ?_, fun x hx => ?_⟩⟩
  · rw [List.map_append, hd, ← hp]
    simp [packG]
  · obtain ⟨b', C', q1, q2, q3, q4, q5⟩ := bd x hx
    exact ⟨b', C', q1, q2, q3, q4, fun z => q5 (List.mem_append.2 (.inl z))⟩
end Go.Proofs.YtblphlcnbnklmaaGreatDoor
namespace Go.Proofs.YtblphlcnbnklmaaGreatDoor
open Go.RowKit
attribute [-go_sem] Builtin.append_
set_option maxRecDepth 100000 in
set_option maxHeartbeats 2000000 in
theorem rpack_any (W : World) (a : Option Addr) (ps : List PV) (n C : Nat) (hn : ps.length = n) (hL : Lst W a ps) (hf : n ≤ 100000) : Calls Tryz.prog 13 #[.slice a n C] W (PcR W (ps.map PV.p)) := by
  have HL := hidIt hL
  have HN := hidIt (And.intro hn hf)
  have BAD : Hid (∀ w', Below W.heap.size W w' → ¬ Good (ps.map PV.p) → PcR W (ps.map PV.p) (.returned (.tuple #[.slice none 0 0, .int .i64 2])) w') := hidIt fun w' hB hG => ⟨hB, .inr ⟨hG, rfl⟩⟩
  have LN := hidIt (show (ps.map PV.p).length = n by rw [List.length_map]; exact hn)
  clear hL hf
  by_cases h1 : (n : Int) < 1
  · have c1 : ((n : Int) < 1) = True := eq_true h1
    have FIN := hidIt (BAD.out W (Below.refl _ _) (fun h => by have := h.1; rw [LN.out] at this; omega))
    clear h1 hn
    go_enter Tryz.func13, Tryz.ntmps13
    go_wp2_with fail
    exact bodyPost_ret (v := .tuple #[.slice none 0 0, .int .i64 2]) (by simp [results, Tryz.results13, go_sem]) rfl FIN.out
  · have c1 : ((n : Int) < 1) = False := eq_false h1
    by_cases h2 : 64 < (n : Int)
    · have c2 : (64 < (n : Int)) = True := eq_true h2
      have FIN := hidIt (BAD.out W (Below.refl _ _) (fun h => by have := h.2.1; rw [LN.out] at this; omega))
      clear h1 h2 hn
      go_enter Tryz.func13, Tryz.ntmps13
      go_wp2_with fail
      exact bodyPost_ret (v := .tuple #[.slice none 0 0, .int .i64 2]) (by simp [results, Tryz.results13, go_sem]) rfl FIN.out
    · have c2 : (64 < (n : Int)) = False := eq_false h2
      have H12 := hidIt (show 1 ≤ n ∧ n ≤ 64 by omega)
      clear h1 h2 hn
      go_enter Tryz.func13, Tryz.ntmps13
      go_wp2_with (go_at_call 50; refine (rsorted_any n C HN.out.1 HL.out HN.out.2).mono ?_; rintro e W2 ⟨sb, rfl, hs, hb⟩; have E2 := hidIt hb; have SB := hidIt hs; clear hs hb; refine Held.out ?_)
      refine Held.mk ?_
      cases sb with
      | false =>
        have FIN := hidIt (BAD.out W2 E2.out (fun h => by have := SB.out.2 h.2.2.1; cases this))
        go_wp2_with fail
        exact bodyPost_ret (v := .tuple #[.slice none 0 0, .int .i64 2]) (by simp [results, Tryz.results13, go_sem]) rfl FIN.out
      | true =>
        have ST := hidIt (rk_start W W2 (ps.map PV.p) E2.out)
        have CH := hidIt (SB.out.1 (by trivial))
        go_wp2_with fail
        go_loopw [4, 5, 6] (fun fv lv i wr => ∃ k : Nat, k ≤ n ∧ i = .int .i64 (k : Int) ∧ Hid (RkI W (ps.map PV.p) k fv lv wr)) (fun _ _ i _ => n - (RowKit.intOf i).toNat)
        case atStart => exact ⟨0, Nat.zero_le _, rfl, ST⟩
        case round =>
          clear ST
          obtain ⟨k, hk, rfl, hI⟩ := hrel
          by_cases hlt : k < n
          · obtain ⟨x, hx⟩ : ∃ x, ps[k]? = some x := ⟨_, List.getElem?_eq_getElem (by have := HN.out.1; omega)⟩
            obtain ⟨b1, o1, ha, hr1, l1⟩ := HL.out.at k x hx
            subst ha
            have OK := hidIt (HL.out.1 x (List.mem_of_getElem? hx))
            have PX : Hid ((ps.map PV.p)[k]? = some x.p) := hidIt (by rw [List.getElem?_map, hx]; rfl)
            have HR := hidIt (fun U (hU : Below W.heap.size W U) => (HL.out.below hU).at k x hx)
            have LT := hidIt hlt
            obtain ⟨i0, i1, i2, i3⟩ := k_ar k n hlt HN.out.2
            have RR : Hid (∀ U, Below W.heap.size W U → U.rangeAt b1 (o1 + k * 3) x.cs) := hidIt fun U hU => by
              obtain ⟨b', o', ha', hr', _⟩ := HR.out U hU
              injection ha' with q
              injection q with q1 q2
              subst q1
              rw [show o1 = o' by omega]
              exact hr'
            have rr := RR.out wr hI.out.1
            clear hx hlt hk hr1 l1 HR
            by_cases hm : may x.p
            · have HM := hidIt hm
              have HE := hidIt (mayE_yes hm)
              clear hm
              obtain ⟨hB, hall, ds, dl, cp, hS, hd, hc, hp, hkc, hl⟩ := hI.out
              obtain ⟨la, lc, hlv⟩ := own_slN hS.lst
              subst hlv
              have SS := hidIt (And.intro hS (And.intro hB (And.intro hall (And.intro hd (And.intro hc (And.intro hp hl))))))
              clear hB hall hS hd hc hp hkc hl hI
              go_wp2_with (first
                | (refine wpList_load_mid rfl 78 (.tmp 29) rfl b1 (o1 + k * 3) rfl x.cs _ rr Tryz.underlying78 rfl pair_size ?_)
                | (go_at_call 51; refine (rcheck_any (OK.out.below SS.out.2.1)).mono ?_; rintro e W5 ⟨rfl, hb⟩; rw [HE.out]; have E5 := hidIt hb; have E5' := hidIt (SS.out.2.1.trans (hb.mono SS.out.2.1.size)); have rr5 := RR.out W5 E5'.out; clear hb rr)
                | (refine wpList_load_mid rfl 78 (.tmp 35) rfl b1 (o1 + k * 3) rfl x.cs _ rr5 Tryz.underlying78 rfl pair_size ?_)
                | (go_at_call 52; refine (xbytes_any (OK.out.below E5'.out) HM.out).mono ?_; rintro e W6 ⟨pb, pC, rfl, hl6, hg6, hb6⟩; have F6 := hidIt (And.intro hl6 (And.intro (Nat.le_trans E5.out.size hg6) (E5.out.trans (hb6.mono E5.out.size)))); clear hl6 hg6 hb6 rr5; refine Held.out ?_))
              have ps := pb_small HM.out
              have S6 := SS.out.1.below F6.out.2.2
              have B6 := SS.out.2.1.trans (F6.out.2.2.mono SS.out.2.1.size)
              have fn : pb ∉ u4.ownBlock.toList := fun q => by
                have := (World.ownsRow.lt SS.out.1.own pb (mem_own q)).2
                have := F6.out.2.1
                omega
              have bl := SS.out.2.2.2.2.1
              have dn := SS.out.2.2.2.2.2.2
              have k64 := LT.out
              have n64 := H12.out.2
              have j1 : wrap64 (((bodL cp).length : Int) + ((pbL x.p).length : Int)) = ((bodL cp).length : Int) + ((pbL x.p).length : Int) := by unfold wrap64; omega
              have j2 : IntKind.i64.wrap (((bodL cp).length : Int) + ((pbL x.p).length : Int)) = ((bodL cp).length : Int) + ((pbL x.p).length : Int) := by rw [IntKind.wrap_i64]; omega
              by_cases hf : 860 < (bodL cp).length + (pbL x.p).length
              · have e1 : (860 < ((bodL cp).length : Int) + ((pbL x.p).length : Int)) = True := eq_true (by omega)
                obtain ⟨v7, W7, hr7, S7, B7, O7⟩ := S6.full 27 (by intro q; rw [q] at hf; simp at hf; omega) (by omega) B6.size
                have L7 : Lies W7 pb 0 (pbL x.p).length (nF (pbL x.p)) := ⟨fun j hj => (O7.cell (p := ⟨pb, 0 + j, none⟩) F6.out.1.2.2 fn).trans (F6.out.1.1 j hj), F6.out.1.2.1, Nat.lt_of_lt_of_le F6.out.1.2.2 O7.size⟩
                obtain ⟨v8, W8, hr8, S8, B8⟩ := S7.app 23 pb pC L7 (by omega) (by simp; omega) (pb_bytes HM.out) (Nat.le_trans B6.size B7.size)
                obtain ⟨fa, fm, fc, rfl⟩ := row_sl S7.own
                have NX := hidIt (RkI.anew PX.out HM.out (B6.trans (B7.trans B8)) SS.out.2.2.1 SS.out.2.2.2.1 SS.out.2.2.2.2.2.1 dn hf (by simp) S8)
                clear ps S6 B6 fn bl dn k64 n64 hf S7 B7 O7 L7 S8 B8
                refine Held.mk ?_
                go_wp2_with fail
                exact ⟨⟨k + 1, LT.out, rfl, NX⟩, meas_k n k _ rfl LT.out⟩
              · have e1 : (860 < ((bodL cp).length : Int) + ((pbL x.p).length : Int)) = False := eq_false (by omega)
                obtain ⟨v8, W8, hr8, S8, B8⟩ := S6.app 23 pb pC F6.out.1 (by omega) (by omega) (pb_bytes HM.out) B6.size
                have NX := hidIt (RkI.more PX.out HM.out (B6.trans B8) SS.out.2.2.1 SS.out.2.2.2.1 SS.out.2.2.2.2.2.1 dn hf S8)
                clear ps S6 B6 fn bl dn k64 n64 hf S8 B8
                refine Held.mk ?_
                go_wp2_with fail
                exact ⟨⟨k + 1, LT.out, rfl, NX⟩, meas_k n k _ rfl LT.out⟩
            · have HE := hidIt (mayE_not hm)
              have FB := hidIt (fun w' hB => BAD.out w' hB (fun h => hm (h.2.2.2 _ (List.mem_of_getElem? PX.out))))
              clear hm
              go_wp2_with (first
                | (refine wpList_load_mid rfl 78 (.tmp 29) rfl b1 (o1 + k * 3) rfl x.cs _ rr Tryz.underlying78 rfl pair_size ?_)
                | (go_at_call 51; refine (rcheck_any (OK.out.below hI.out.1)).mono ?_; rintro e W5 ⟨rfl, hb⟩; rw [HE.out]; have F5 := hidIt (FB.out W5 (hI.out.1.trans (hb.mono hI.out.1.size))); clear hb))
              exact bodyPost_ret (v := .tuple #[.slice none 0 0, .int .i64 2]) (by simp [results, Tryz.results13, go_sem]) rfl F5.out
          · obtain rfl : k = n := by omega
            obtain ⟨la, m, lc, xa, xn, xC, W1, rfl, hr, hF⟩ := rk_end hI.out LN.out H12.out.1 H12.out.2 CH.out
            have FIN := hidIt hF
            have i0 : ((k : Int) < (k : Int)) = False := eq_false (by omega)
            clear hlt hk hF
            go_wp2_with fail
            exact bodyPost_ret (v := .tuple #[.slice xa xn xC, .int .i64 0]) (by simp [results, Tryz.results13, go_sem]) rfl FIN.out
end Go.Proofs.YtblphlcnbnklmaaGreatDoor
namespace Go.Proofs.YtblphlcnbnklmaaGreatDoor
open Go.RowKit
attribute [-go_sem] Builtin.append_
/-- What xtake answers. -/
def TxP (W : World) (b o n C : Nat) (f : Nat → Int) (e : Ending) (w' : World) : Prop := ∃ L : Nat, (L : Int) = f 0 ∧ Below W.heap.size W w' ∧ (if n < 1 + L then e = .returned (.tuple #[.slice none 0 0, .slice none 0 0, .bool false]) else e = .returned (.tuple #[.slice (some (cutP b o 1 1 C)) L (C - 1), .slice (some (cutP b o (1 + L) 1 C)) (n - (1 + L)) (C - (1 + L)), .bool true]))
set_option maxRecDepth 100000 in
set_option maxHeartbeats 1000000 in
theorem xtake_ok (W : World) (b o n C : Nat) (f : Nat → Int) (h0 : 0 < n) (hl : Lies W b o n f) (hC : n ≤ C) (hn : n ≤ 100000) : Calls Tryz.prog 55 #[.slice (some ⟨b, o, none⟩) n C] W (TxP W b o n C f) := by
  obtain ⟨L, hL⟩ : ∃ L : Nat, (L : Int) = f 0 := ⟨(f 0).toNat, by have := (hl.2.1 0 h0).1; omega⟩
  have L255 : L < 256 := by have := (hl.2.1 0 h0).2; omega
  have c0 := hl.1 0 h0
  rw [Nat.add_zero, ← hL] at c0
  have HL := hidIt hl
  have i0 : (0 : Int) < (n : Int) := by omega
  have n0 : ((n : Int) == 0) = false := by rw [beq_eq_false_iff_ne]; omega
  have n1 : (n = 0) = False := eq_false (by omega)
  have n2 : (0 < n) = True := eq_true h0
  have i1 : wrap64 (L : Int) = (L : Int) := by unfold wrap64; omega
  have i1' : IntKind.i64.wrap (L : Int) = (L : Int) := by rw [IntKind.wrap_i64]; omega
  have i2 : wrap64 (1 + (L : Int)) = 1 + (L : Int) := by unfold wrap64; omega
  have i3 : IntKind.i64.wrap (1 + (L : Int)) = 1 + (L : Int) := by rw [IntKind.wrap_i64]; omega
  by_cases hlt : n < 1 + L
  · have i4 : ((n : Int) < 1 + (L : Int)) = True := eq_true (by omega)
    have FIN : Hid (TxP W b o n C f (.returned (.tuple #[.slice none 0 0, .slice none 0 0, .bool false])) W) := hidIt ⟨L, hL, Below.refl _ _, by rw [if_pos hlt]⟩
    clear hl hL hlt h0 hC hn L255
    go_enter Tryz.func55, Tryz.ntmps55
    go_wp2_with fail
    exact bodyPost_ret (v := .tuple #[.slice none 0 0, .slice none 0 0, .bool false]) (by simp [results, Tryz.results55, go_sem]) rfl FIN.out
  · have i4 : ((n : Int) < 1 + (L : Int)) = False := eq_false (by omega)
    have s1 : ∀ w, (Instr.slice 23 (.slice (some ⟨b, o, none⟩) n C) (some (.int .i64 1)) (some (.int .i64 (1 + (L : Int)))) none).run Tryz.prog w = .ok (.slice (some (cutP b o 1 1 C)) L (C - 1)) w := fun w => by
      have := run_slice_two b o n C 1 (1 + L) (by omega) (by omega) w
      rwa [show 1 + L - 1 = L by omega, show ((1 + L : Nat) : Int) = 1 + (L : Int) by omega] at this
    have s2 : ∀ w, (Instr.slice 23 (.slice (some ⟨b, o, none⟩) n C) (some (.int .i64 (1 + (L : Int)))) none none).run Tryz.prog w = .ok (.slice (some (cutP b o (1 + L) 1 C)) (n - (1 + L)) (C - (1 + L))) w := fun w => by
      have := run_slice_low 23 5 1 Tryz.underlying23 (by obtain ⟨i0, hi, _, hz1, _⟩ := info_parts info_u8; simp [hi, hz1]) b o n C (1 + L) (by omega) w
      rwa [show ((1 + L : Nat) : Int) = 1 + (L : Int) by omega] at this
    have FIN : Hid (∀ w', Below W.heap.size W w' → TxP W b o n C f (.returned (.tuple #[.slice (some (cutP b o 1 1 C)) L (C - 1), .slice (some (cutP b o (1 + L) 1 C)) (n - (1 + L)) (C - (1 + L)), .bool true])) w') := hidIt fun w' hB => ⟨L, hL, hB, by rw [if_neg hlt]⟩
    have CE : Hid (W.drew.cell? ⟨b, o, none⟩ = some (.int .u8 (L : Int))) := hidIt (((Below.refl W.heap.size W).drew.cell (p := ⟨b, o, none⟩) hl.2.2).trans c0)
    clear hl hL hlt h0 hC hn L255
    go_enter Tryz.func55, Tryz.ntmps55
    go_wp2_with fail
    refine wp_region_noPanic ?_
    refine wp_region_held_drew (S := fun w' => w'.cell? ⟨b, o, none⟩ = some (.int .u8 (L : Int))) (by kernel_rfl) ?_ (fun hHeld => ?_)
    · exact CE.out
    refine take_at (i := 0) (v := ?_) (some 18) rfl rfl (by kernel_rfl) (by kernel_rfl) (by kernel_rfl) (fun _ _ _ h => h) (Or.inl ⟨by rfl, ?_⟩) (by assumption) ?_
    rotate_left
    · (intro w hSw; (try dsimp only at hSw); go_simp; try with_reducible rfl)
    simp only [Act.put, List.setIfInBounds_toArray, List.set_cons_zero, List.set_cons_succ]
    refine take_at (i := 1) (v := ?_) (some 19) rfl rfl (by kernel_rfl) (by kernel_rfl) (by kernel_rfl) (fun _ _ _ h => h) (Or.inl ⟨by rfl, ?_⟩) (by assumption) ?_
    rotate_left
    · (intro w hSw; (try dsimp only at hSw); go_simp; try with_reducible rfl)
    simp only [Act.put, List.setIfInBounds_toArray, List.set_cons_zero, List.set_cons_succ]
    refine take_at (i := 2) (v := ?_) (some 20) rfl rfl (by kernel_rfl) (by kernel_rfl) (by kernel_rfl) (fun _ _ _ h => h) (Or.inl ⟨by rfl, ?_⟩) (by assumption) ?_
    rotate_left
    · (intro w hSw; (try dsimp only at hSw); go_simp; try with_reducible rfl)
    simp only [Act.put, List.setIfInBounds_toArray, List.set_cons_zero, List.set_cons_succ]
    refine take_at (i := 3) (v := ?_) (some 21) rfl rfl (by kernel_rfl) (by kernel_rfl) (by kernel_rfl) (fun _ _ _ h => h) (Or.inl ⟨by rfl, ?_⟩) (by assumption) ?_
    rotate_left
    · (intro w hSw; (try dsimp only at hSw); go_simp; try with_reducible rfl)
    simp only [Act.put, List.setIfInBounds_toArray, List.set_cons_zero, List.set_cons_succ]
    refine take_at (i := 4) (v := ?_) (some 22) rfl rfl (by kernel_rfl) (by kernel_rfl) (by kernel_rfl) (fun _ _ _ h => h) (Or.inl ⟨by rfl, ?_⟩) (by assumption) ?_
    rotate_left
    · (intro w hSw; (try dsimp only at hSw); go_simp; try with_reducible rfl)
    simp only [Act.put, List.setIfInBounds_toArray, List.set_cons_zero, List.set_cons_succ]
    refine take_at (i := 5) (v := ?_) (some 23) rfl rfl (by kernel_rfl) (by kernel_rfl) (by kernel_rfl) (fun _ _ _ h => h) (Or.inl ⟨by rfl, ?_⟩) (by assumption) ?_
    rotate_left
    · (intro w hSw; (try dsimp only at hSw); go_simp; try with_reducible rfl)
    simp only [Act.put, List.setIfInBounds_toArray, List.set_cons_zero, List.set_cons_succ]
    refine take_at (i := 6) (v := ?_) (some 24) rfl rfl (by kernel_rfl) (by kernel_rfl) (by kernel_rfl) (fun _ _ _ h => h) (Or.inl ⟨by rfl, ?_⟩) (by assumption) ?_
    rotate_left
    · (intro w hSw; (try dsimp only at hSw); go_simp; try with_reducible rfl)
    simp only [Act.put, List.setIfInBounds_toArray, List.set_cons_zero, List.set_cons_succ]
    refine take_at (i := 7) (v := ?_) (some 25) rfl rfl (by kernel_rfl) (by kernel_rfl) (by kernel_rfl) (fun _ _ _ h => h) (Or.inl ⟨by rfl, ?_⟩) (by assumption) ?_
    rotate_left
    · (intro w hSw; (try dsimp only at hSw); go_simp; try with_reducible rfl)
    simp only [Act.put, List.setIfInBounds_toArray, List.set_cons_zero, List.set_cons_succ]
    refine take_at (i := 8) (v := ?_) (some 26) rfl rfl (by kernel_rfl) (by kernel_rfl) (by kernel_rfl) (fun _ _ _ h => h) (Or.inl ⟨by rfl, ?_⟩) (by assumption) ?_
    rotate_left
    · (intro w hSw; (try dsimp only at hSw); go_simp; try with_reducible rfl)
    simp only [Act.put, List.setIfInBounds_toArray, List.set_cons_zero, List.set_cons_succ]
    refine take_at (i := 9) (v := ?_) (some 27) rfl rfl (by kernel_rfl) (by kernel_rfl) (by kernel_rfl) (fun _ _ _ h => h) (Or.inl ⟨by rfl, ?_⟩) (by assumption) ?_
    rotate_left
    · (intro w hSw; (try dsimp only at hSw); go_simp; try with_reducible rfl)
    simp only [Act.put, List.setIfInBounds_toArray, List.set_cons_zero, List.set_cons_succ]
    refine take_at (i := 10) (v := ?_) (some 28) rfl rfl (by kernel_rfl) (by kernel_rfl) (by kernel_rfl) (fun _ _ _ h => h) (Or.inl ⟨by rfl, ?_⟩) (by assumption) ?_
    rotate_left
    · (intro w hSw; (try dsimp only at hSw); go_simp; try with_reducible rfl)
    simp only [Act.put, List.setIfInBounds_toArray, List.set_cons_zero, List.set_cons_succ]
    refine take_at (i := 11) (v := ?_) (some 29) rfl rfl (by kernel_rfl) (by kernel_rfl) (by kernel_rfl) (fun _ _ _ h => h) (Or.inl ⟨by rfl, ?_⟩) (by assumption) ?_
    rotate_left
    · (intro w hSw; (try dsimp only at hSw); go_simp; try with_reducible rfl)
    simp only [Act.put, List.setIfInBounds_toArray, List.set_cons_zero, List.set_cons_succ]
    refine take_at (i := 12) (v := ?_) (some 30) rfl rfl (by kernel_rfl) (by kernel_rfl) (by kernel_rfl) (fun _ _ _ h => h) (Or.inl ⟨by rfl, ?_⟩) (by assumption) ?_
    rotate_left
    · (intro w hSw; (try dsimp only at hSw); go_simp; try with_reducible rfl)
    simp only [Act.put, List.setIfInBounds_toArray, List.set_cons_zero, List.set_cons_succ]
    refine take_at (i := 13) (v := ?_) (some 31) rfl rfl (by kernel_rfl) (by kernel_rfl) (by kernel_rfl) (fun _ _ _ h => h) (Or.inl ⟨by rfl, ?_⟩) (by assumption) ?_
    rotate_left
    · (intro w hSw; (try dsimp only at hSw); go_simp; try with_reducible rfl)
    simp only [Act.put, List.setIfInBounds_toArray, List.set_cons_zero, List.set_cons_succ]
    refine take_at (i := 14) (v := ?_) (some 2) rfl rfl (by kernel_rfl) (by kernel_rfl) (by kernel_rfl) (fun _ _ _ h => h) (Or.inl ⟨by rfl, ?_⟩) (by assumption) ?_
    rotate_left
    · (intro w hSw; (try dsimp only at hSw); go_simp; try with_reducible rfl)
    simp only [Act.put, List.setIfInBounds_toArray, List.set_cons_zero, List.set_cons_succ]
    refine take_at (i := 15) (v := ?_) (some 3) rfl rfl (by kernel_rfl) (by kernel_rfl) (by kernel_rfl) (fun _ _ _ h => h) (Or.inl ⟨by rfl, ?_⟩) (by assumption) ?_
    rotate_left
    · (intro w hSw; (try dsimp only at hSw); go_simp; try with_reducible rfl)
    simp only [Act.put, List.setIfInBounds_toArray, List.set_cons_zero, List.set_cons_succ]
    refine take_at (i := 16) (v := ?_) (some 4) rfl rfl (by kernel_rfl) (by kernel_rfl) (by kernel_rfl) (fun _ _ _ h => h) (Or.inl ⟨by rfl, ?_⟩) (by assumption) ?_
    rotate_left
    · (intro w hSw; (try dsimp only at hSw); go_simp; try with_reducible rfl)
    simp only [Act.put, List.setIfInBounds_toArray, List.set_cons_zero, List.set_cons_succ]
    refine wpAnyH_done (by kernel_rfl) ?_ _
    refine NoPanic.normal ?_
    clear hHeld
    go_wp2_with fail
    exact bodyPost_ret (v := .tuple #[.slice (some (cutP b o 1 1 C)) L (C - 1), .slice (some (cutP b o (1 + L) 1 C)) (n - (1 + L)) (C - (1 + L)), .bool true]) (by simp [results, Tryz.results55, go_sem]) rfl (FIN.out _ (Below.refl _ _).drew)
end Go.Proofs.YtblphlcnbnklmaaGreatDoor
namespace Go.Proofs.YtblphlcnbnklmaaGreatDoor
open Go.RowKit
attribute [-go_sem] Builtin.append_
theorem bs0_run {a : Act} {w : World} {o : Oper} (ho : o.op = .buildSlice 23 0 #[]) : (execOp a.eval o).run Tryz.prog w = .ok (.value (.slice (some ⟨w.heap.size, 0, none⟩) 0 0)) (w.alloc (.cells #[] 5)) := by
  obtain ⟨i0, hi, hz0, hz1, hz2⟩ := info_parts info_u8
  simp [execOp, ho, Instr.buildSlice, run_underlying Tryz.underlying23, sizeOf, typeInfo, hi, newRow, Instr.fill, Result.andThen]
  rw [show Array.range 0 = #[] from Array.eq_empty_of_size_eq_zero (by simp), Array.map_empty]
theorem own_txt {W : World} {base m : Nat} {v : Value} {F : Nat → Int} (h : Own W base v m F) (hb : ∀ j, j < m → 0 ≤ F j ∧ F j < 256) {N : List Nat} (hN : ∀ b, b ∈ N → b < base) : Txt W N v (txtN m F) := by
  by_cases h0 : m = 0
  · subst h0
    rcases h.2 with ⟨rfl, _⟩ | ⟨g, cap, cur, rfl, _⟩
    · exact ⟨none, 0, F, by rw [txtN_size], by rw [txtN_size]; exact .inl ⟨rfl, .inl rfl⟩, by rw [txtN_size], fun q => by rw [txtN_size] at q; omega⟩
    · exact ⟨some ⟨g, 0, none⟩, cap, F, by rw [txtN_size], by rw [txtN_size]; exact .inl ⟨rfl, .inr ⟨_, rfl⟩⟩, by rw [txtN_size], fun q => by rw [txtN_size] at q; omega⟩
  · obtain ⟨g, cap, rfl, hg, hc, hL⟩ := h.form (by omega) hb
    refine ⟨some ⟨g, 0, none⟩, cap, F, by rw [txtN_size], by rw [txtN_size]; exact .inr ⟨by omega, g, 0, rfl, hL⟩, by rw [txtN_size], fun _ q hq z => ?_⟩
    injection hq with hq
    subst hq
    have z2 : g < base := hN _ z
    omega
/-- Bytes are put into a slice of their own, which had none. -/
theorem app_zero (W : World) (b off m C : Nat) (f : Nat → Int) (hA : Lies W b off m f ∨ m = 0) (hm : m ≤ 100000) (ad : Addr) (had : 0 < m → ad = ⟨b, off, none⟩) (ty : TypeId) :
    ∃ v' W', (Builtin.append_ #[23, 23] ty #[.slice (some ⟨W.heap.size, 0, none⟩) 0 0, .slice (some ad) m C]).run Tryz.prog (W.alloc (.cells #[] 5)) = .ok v' W' ∧ (∀ N : List Nat, (∀ b, b ∈ N → b < W.heap.size) → Txt W' N v' (txtN m f)) ∧ Below W.heap.size W W' ∧ ∃ xa xn xC, v' = .slice xa xn xC := by
  have A : Below W.heap.size W (W.alloc (.cells #[] 5)) := (Below.refl _ _).alloc (Nat.le_refl _) _
  have ow : Own (W.alloc (.cells #[] 5)) W.heap.size (.slice (some ⟨W.heap.size, 0, none⟩) 0 0) 0 (fun _ => 0) := Own.lit W W.heap.size 0 (fun _ => 0) (Nat.le_refl _) (by decide)
  have arg : Arg (W.alloc (.cells #[] 5)) (some ad) m f := by
    by_cases h0 : m = 0
    · exact .inl ⟨h0, .inr ⟨_, rfl⟩⟩
    · rcases hA with h | h
      · exact .inr ⟨by omega, b, off, by rw [had (by omega)], h.below A⟩
      · exact absurd h h0
  obtain ⟨v', W', hr, ho, hB⟩ := app_arg ty _ W.heap.size 0 m C _ (some ad) _ f ow arg (by omega) A.size
  rw [cat_zero, Nat.zero_add] at ho
  exact ⟨v', W', hr, fun N hN => own_txt ho arg.bytes hN, A.trans hB, own_sl ho⟩
/-- What holds at the head of the reference's Unpack's loop. -/
structure TaJ (t : (Nat → Int) → Nat → Option (Pr × Nat)) (W : World) (b o n C : Nat) (f : Nat → Int) (i : Nat) (body : Value) (wr : World) (lv : Value) (os : List PV) : Prop where
  le : i ≤ n
  bd : ∃ ad, body = .slice (some ad) (n - i) (C - i) ∧ (i < n → ad = ⟨b, o + i, none⟩)
  own : OwnP wr 0 lv os
  new : ∀ g, lv.ownBlock = some g → W.heap.size ≤ g
  frs : ∀ x ∈ os, PVOk wr lv.ownBlock.toList x
  few : os.length ≤ i
  par : ∀ k, n ≤ k → paR t k f n = (paR t k (fun j => f (i + j)) (n - i)).map (os.map PV.p ++ ·)
  below : Below W.heap.size W wr
theorem TaJ.next {t : (Nat → Int) → Nat → Option (Pr × Nat)} (ht : ∀ f n p c, t f n = some (p, c) → 0 < c ∧ c ≤ n) {W wr W5 W6 : World} {b o n C i c : Nat} {f : Nat → Int} {body lv v6 : Value} {os : List PV} {x : PV} {ad : Addr} (h : TaJ t W b o n C f i body wr lv os) (hi : i < n) (hc : t (fun j => f (i + j)) (n - i) = some (x.p, c)) (hm : may x.p) (hB : Below wr.heap.size wr W5) (hx : PVOk W5 lv.ownBlock.toList x) (hI : Insd W5 lv (os ++ [x]) v6 W6) (ha : c < n - i → ad = ⟨b, o + i + c, Option.none⟩) : TaJ t W b o n C f (i + c) (.slice (some ad) (n - i - c) (C - i - c)) W6 v6 (os ++ [x]) := by
  have q := ht _ _ _ _ hc
  have s5 := Nat.le_trans h.below.size hB.size
  have n6 : ∀ b, b ∈ v6.ownBlock.toList → b ∈ lv.ownBlock.toList ∨ W5.heap.size ≤ b := fun b hb => by
    cases e : v6.ownBlock with
    | none => rw [e] at hb; cases hb
    | some g => rw [e] at hb; simp at hb; subst hb; rcases hI.blk _ e with q | q; exact .inl (by rw [q]; simp); exact .inr q
  refine ⟨by omega, ⟨ad, by rw [Nat.sub_sub, Nat.sub_sub], fun hh => by rw [ha (by omega), Nat.add_assoc]⟩, hI.own, fun g hg => ?_, fun z hz => ?_, by have := h.few; simp; omega, fun k hk => ?_, (h.below.trans (hB.mono h.below.size)).trans (hI.off.below (fun b hb => ?_) s5)⟩
  · rcases hI.blk g hg with z | z
    · exact h.new g z
    · exact Nat.le_trans s5 z
  · have a : PVOk W5 lv.ownBlock.toList z := by
      rcases List.mem_append.1 hz with hz | hz
      · exact (h.frs z hz).below hB
      · rcases List.mem_singleton.1 hz with rfl
        exact hx
    exact (a.mono n6).both a hI.off
  · rw [h.par k hk, paR_step ht (by omega) (by omega) hc hm, Option.map_map, show n - (i + c) = n - i - c by omega]
    have e : (fun j => f (i + (c + j))) = fun j => f (i + c + j) := by funext j; rw [Nat.add_assoc]
    rw [e]
    congr 1
    funext l
    simp
  · cases e : lv.ownBlock with
    | none => rw [e] at hb; cases hb
    | some g => rw [e] at hb; simp at hb; subst hb; exact h.new _ e
theorem xtake_no (W : World) (b o n C L : Nat) (f : Nat → Int) (h0 : 0 < n) (hl : Lies W b o n f) (hC : n ≤ C) (hn : n ≤ 100000) (hL : (L : Int) = f 0) (h : n < 1 + L) : Calls Tryz.prog 55 #[.slice (some ⟨b, o, none⟩) n C] W fun e w' => e = .returned (.tuple #[.slice none 0 0, .slice none 0 0, .bool false]) ∧ Below W.heap.size W w' := by
  refine (xtake_ok W b o n C f h0 hl hC hn).mono ?_
  rintro e w' ⟨L', h1, hB, hE⟩
  obtain rfl : L' = L := by omega
  rw [if_pos h] at hE
  exact ⟨hE, hB⟩
theorem xtake_yes (W : World) (b o n C L : Nat) (f : Nat → Int) (h0 : 0 < n) (hl : Lies W b o n f) (hC : n ≤ C) (hn : n ≤ 100000) (hL : (L : Int) = f 0) (h : ¬ n < 1 + L) : Calls Tryz.prog 55 #[.slice (some ⟨b, o, none⟩) n C] W fun e w' => e = .returned (.tuple #[.slice (some (cutP b o 1 1 C)) L (C - 1), .slice (some (cutP b o (1 + L) 1 C)) (n - (1 + L)) (C - (1 + L)), .bool true]) ∧ Below W.heap.size W w' := by
  refine (xtake_ok W b o n C f h0 hl hC hn).mono ?_
  rintro e w' ⟨L', h1, hB, hE⟩
  obtain rfl : L' = L := by omega
  rw [if_neg h] at hE
  exact ⟨hE, hB⟩
theorem xtake_in (W : World) (b o n C L : Nat) (f : Nat → Int) (hl : Lies W b o n f) (hC : n ≤ C) (hn : n ≤ 100000) (hL : (L : Int) = f 0) (h : 1 + L < n) : Calls Tryz.prog 55 #[.slice (some ⟨b, o, none⟩) n C] W fun e w' => e = .returned (.tuple #[.slice (some ⟨b, o + 1, none⟩) L (C - 1), .slice (some ⟨b, o + (1 + L), none⟩) (n - (1 + L)) (C - (1 + L)), .bool true]) ∧ Below W.heap.size W w' := by
  have := xtake_yes W b o n C L f (by omega) hl hC hn hL (by omega)
  rwa [cut_in b o 1 C (by omega), cut_in b o (1 + L) C (by omega)] at this
theorem tp_no1 {f : Nat → Int} {n L : Nat} (hL : (L : Int) = f 0) (h : n ≤ 1 + L) : tpR f n = none := by
  unfold tpR
  rw [show (f 0).toNat = L by omega, if_pos h]
theorem tp_gone {f : Nat → Int} {n L : Nat} (hL : (L : Int) = f 0) (h : 1 + L < n) (hM : f (1 + L) = 255) : tpR f n = some (⟨txtN L (fun j => f (1 + j)), .empty, true⟩, 2 + L) := by
  unfold tpR
  rw [show (f 0).toNat = L by omega, if_neg (by omega), if_pos hM]
theorem tp_no3 {f : Nat → Int} {n L M : Nat} (hL : (L : Int) = f 0) (h : 1 + L < n) (hM : (M : Int) = f (1 + L)) (hg : M ≠ 255) (h3 : n - (1 + L) < 1 + M) : tpR f n = none := by
  unfold tpR
  rw [show (f 0).toNat = L by omega, if_neg (by omega), if_neg (by omega), show (f (1 + L)).toNat = M by omega, if_pos h3]
theorem tp_val {f : Nat → Int} {n L M : Nat} (hL : (L : Int) = f 0) (h : 1 + L < n) (hM : (M : Int) = f (1 + L)) (hg : M ≠ 255) (h3 : ¬ n - (1 + L) < 1 + M) : tpR f n = some (⟨txtN L (fun j => f (1 + j)), txtN M (fun j => f (1 + L + (1 + j))), false⟩, 2 + L + M) := by
  unfold tpR
  rw [show (f 0).toNat = L by omega, if_neg (by omega), if_neg (by omega), show (f (1 + L)).toNat = M by omega, if_neg h3]
/-- What the reference's Unpack answers. -/
def UxP (W : World) (n : Nat) (f : Nat → Int) (e : Ending) (w' : World) : Prop := Below W.heap.size W w' ∧ ((∃ la lc os, e = .returned (.tuple #[.slice la (os : List PV).length lc, .int .i64 0]) ∧ Lst w' la os ∧ Bod f n (os.map PV.p)) ∨ (e = .returned (.tuple #[.slice none 0 0, .int .i64 13]) ∧ ∀ l, ¬ Bod f n l))
theorem TaJ.none {t : (Nat → Int) → Nat → Option (Pr × Nat)} {W wr : World} {b o n C i : Nat} {f : Nat → Int} {body lv : Value} {os : List PV} (h : TaJ t W b o n C f i body wr lv os) (hi : i < n) (hb : t (fun j => f (i + j)) (n - i) = Option.none ∨ ∃ p c, t (fun j => f (i + j)) (n - i) = some (p, c) ∧ ¬ may p) : paR t n f n = Option.none := by
  rw [h.par n (Nat.le_refl _), paR_bad (by omega) hb]
  rfl
theorem ux_none {W w' : World} {n : Nat} {f : Nat → Int} (hB : Below W.heap.size W w') (h : paR tpR n f n = Option.none) : UxP W n f (.returned (.tuple #[.slice Option.none 0 0, .int .i64 13])) w' := ⟨hB, .inr ⟨rfl, fun l hL => by have := hL.2.1; rw [h] at this; cases this⟩⟩
end Go.Proofs.YtblphlcnbnklmaaGreatDoor
namespace Go.Proofs.YtblphlcnbnklmaaGreatDoor
open Go.RowKit
attribute [-go_sem] Builtin.append_
set_option maxRecDepth 100000 in
set_option maxHeartbeats 4000000 in
theorem runpack_ok (W : World) (b o n C : Nat) (f : Nat → Int) (hl : Lies W b o n f) (hC : n ≤ C) (hn : n ≤ 100000) : Calls Tryz.prog 15 #[.slice (some ⟨b, o, none⟩) n C] W (UxP W n f) := by
  have HL := hidIt hl
  have HC := hidIt (And.intro hC hn)
  have st : Hid (TaJ tpR W b o n C f 0 (.slice (some ⟨b, o, none⟩) n C) W (.slice none 0 0) []) := hidIt ⟨Nat.zero_le _, ⟨_, rfl, fun _ => rfl⟩, OwnP.nil _ _, fun g hg => (by cases hg), fun x hx => (by cases hx), Nat.zero_le _, fun k _ => by simp, Below.refl _ _⟩
  clear hl hC hn
  go_enter Tryz.func15, Tryz.ntmps15
  go_wp2_with fail
  go_loopw [4, 5] (fun lv body wr => ∃ (i : Nat) (os : List PV), Hid (TaJ tpR W b o n C f i body wr lv os)) (fun _ body _ => lenSl body)
  case atStart => exact ⟨0, _, st⟩
  case round =>
    clear st
    obtain ⟨i, os, hI⟩ := hrel
    obtain ⟨ad, hbd, had⟩ := hI.out.bd
    subst hbd
    by_cases hlt : i < n
    · have LT := hidIt hlt
      have had' := had hlt
      subst had'
      have i0 : (0 : Int) < ((n - i : Nat) : Int) := by omega
      have i1 : (0 < n - i) = True := eq_true (by omega)
      clear had
      have LI := hidIt (lies_on (HL.out.below hI.out.below) hI.out.le)
      have nc : n - i ≤ C - i ∧ n - i ≤ 100000 := by have := HC.out; omega
      have NC := hidIt nc
      obtain ⟨L, hL⟩ : ∃ L : Nat, (L : Int) = f (i + 0) := ⟨(f (i + 0)).toNat, by have q : 0 ≤ f (i + 0) := (LI.out.2.1 0 (by omega)).1; omega⟩
      have L255 : L < 256 := by have q : f (i + 0) < 256 := (LI.out.2.1 0 (by omega)).2; omega
      have HF := hidIt hL
      have LS := hidIt L255
      clear hL nc
      by_cases hA : n - i < 1 + L
      · have NO := hidIt (hI.out.none LT.out (.inl (tp_no1 (f := fun j => f (i + j)) HF.out (by omega))))
        have HA := hidIt hA
        clear hA hlt L255
        go_wp2_with (go_at_call 55; refine (xtake_no wr b (o + i) (n - i) (C - i) L (fun j => f (i + j)) (by have := LT.out; omega) LI.out NC.out.1 NC.out.2 HF.out HA.out).mono ?_; rintro e W2 ⟨rfl, b2⟩; have E2 := hidIt (hI.out.below.trans (b2.mono hI.out.below.size)); clear b2)
        exact bodyPost_ret (v := .tuple #[.slice none 0 0, .int .i64 13]) (by simp [results, Tryz.results15, go_sem]) rfl (ux_none E2.out NO.out)
      · by_cases hB : n - i = 1 + L
        · have NO := hidIt (hI.out.none LT.out (.inl (tp_no1 (f := fun j => f (i + j)) HF.out (by omega))))
          have HA := hidIt hA
          have z1 : n - i - (1 + L) = 0 := by omega
          clear hA hlt hB L255
          go_wp2_with (go_at_call 55; refine (xtake_yes wr b (o + i) (n - i) (C - i) L (fun j => f (i + j)) (by have := LT.out; omega) LI.out NC.out.1 NC.out.2 HF.out HA.out).mono ?_; rintro e W2 ⟨rfl, b2⟩; rw [z1]; have E2 := hidIt (hI.out.below.trans (b2.mono hI.out.below.size)); clear b2)
          exact bodyPost_ret (v := .tuple #[.slice none 0 0, .int .i64 13]) (by simp [results, Tryz.results15, go_sem]) rfl (ux_none E2.out NO.out)
        · have HB := hidIt (show 1 + L < n - i by omega)
          obtain ⟨r, hr⟩ : ∃ r, r = n - i - (1 + L) := ⟨_, rfl⟩
          have HR := hidIt hr
          have r0 : (0 < r) = True := eq_true (by omega)
          have r1 : (r = 0) = False := eq_false (by omega)
          have r2 : ((r : Int) == 0) = false := by rw [beq_eq_false_iff_ne]; omega
          have r3 : (0 : Int) < (r : Int) := by omega
          obtain ⟨M, hM⟩ : ∃ M : Nat, (M : Int) = f (i + (1 + L)) := ⟨(f (i + (1 + L))).toNat, by have q : 0 ≤ f (i + (1 + L)) := (LI.out.2.1 (1 + L) HB.out).1; omega⟩
          have HM := hidIt hM
          have M255 : M < 256 := by have q : f (i + (1 + L)) < 256 := (LI.out.2.1 (1 + L) HB.out).2; omega
          have MS := hidIt M255
          have CE : Hid (∀ U, Below wr.heap.size wr U → U.cell? ⟨b, o + i + (1 + L), none⟩ = some (.int .u8 (M : Int))) := hidIt fun U hU => by
            rw [HM.out]
            exact (hU.cell (p := ⟨b, o + i + (1 + L), none⟩) LI.out.2.2).trans (LI.out.1 (1 + L) HB.out)
          clear hA hB hr hM hlt L255 M255
          go_wp2_with (go_at_call 55; refine (xtake_in wr b (o + i) (n - i) (C - i) L (fun j => f (i + j)) LI.out NC.out.1 NC.out.2 HF.out HB.out).mono ?_; rintro e W2 ⟨rfl, b2⟩; rw [← HR.out]; have E2 := hidIt b2; clear b2; refine Held.out ?_)
          obtain ⟨v3, W3, hr3, T3, B3, xa, xn, xC, rfl⟩ := app_zero W2 b (o + i + 1) L (C - i - 1) (fun j => f (i + (1 + j))) (.inl ((LI.out.below E2.out).part 1 L (by have := HB.out; omega))) (by have := LS.out; omega) ⟨b, o + i + 1, none⟩ (fun _ => rfl) 23
          have TK := hidIt T3
          have E3 := hidIt (E2.out.trans (B3.mono E2.out.size))
          clear T3 B3
          by_cases hg : M = 255
          · subst hg
            have c6 : ∀ w, (Instr.slice 23 (.slice (some ⟨b, o + i + (1 + L), none⟩) r (C - i - (1 + L))) (some (.int .i64 1)) none none).run Tryz.prog w = .ok (.slice (some (cutP b (o + i + (1 + L)) 1 1 (C - i - (1 + L)))) (r - 1) (C - i - (1 + L) - 1)) w := fun w => run_slice_low 23 5 1 Tryz.underlying23 (by obtain ⟨i0, hi, _, hz1, _⟩ := info_parts info_u8; simp [hi, hz1]) b (o + i + (1 + L)) r (C - i - (1 + L)) 1 (by have := HR.out; have := NC.out; omega) w
            have HT := hidIt (tp_gone (f := fun j => f (i + j)) HF.out HB.out (by rw [← HM.out]; rfl))
            refine Held.mk ?_
            go_wp2_with (first
              | (refine wpList_run_w (by rfl) (.slice (some ⟨W2.heap.size, 0, none⟩) 0 0) (W2.alloc (.cells #[] 5)) (bs0_run rfl) ?_)
              | (refine wpList_alloc_rec rfl 78 rfl _ W3.heap.size rfl pair_zero ?_; intro W4 R4 B4 z4; have E4 := hidIt B4; have P4 := hidIt R4; clear R4 B4 z4)
              | (refine wpList_store_rec rfl 78 (.tmp 9) (.tmp 33) rfl W3.heap.size 0 _ [.slice xa xn xC, .slice none 0 0, .bool false] rfl rfl P4.out rfl pair_size (by intro u hu; simp only [List.mem_cons, List.not_mem_nil, or_false] at hu; rcases hu with rfl | rfl | rfl <;> rfl) ?_; intro W5 R5 B5; have E5 := hidIt (E4.out.trans (B5.below (Nat.le_refl _) E4.out.size)); have P5 := hidIt R5; have c5 := CE.out W5 (E3.out.trans (E5.out.mono E3.out.size)); clear R5 B5)
              | (refine wpList_put_rec rfl 4 (.tmp 38) (.const (.bool true)) rfl W3.heap.size 2 [.slice xa xn xC, .slice none 0 0, .bool false] [.bool true] [.slice xa xn xC, .slice none 0 0, .bool true] (.bool true) rfl rfl rfl P5.out (by show 2 + 1 ≤ 3; omega) rfl (by kernel_rfl) (by intro u hu; rcases List.mem_singleton.1 hu with rfl; rfl) ?_; intro W6 R6 B6 z6; have Z6 := hidIt (E5.out.trans (B6.below (Nat.le_refl _) E5.out.size)); have E6 := hidIt (E3.out.trans (Z6.out.mono E3.out.size)); have P6 := hidIt R6; clear R6 B6 z6 c5; refine Held.out ?_))
            have OK6 : Hid (∀ N : List Nat, (∀ b, b ∈ N → b < wr.heap.size) → PVOk W6 N (PV.mk (.slice xa xn xC) (.slice none 0 0) ⟨txtN L (fun j => f (i + (1 + j))), .empty, true⟩)) := hidIt fun N hN => ⟨(TK.out N (fun b hb => Nat.lt_of_lt_of_le (hN b hb) E2.out.size)).below Z6.out, Txt.nil _ _ _⟩
            have HA9 := hidIt (show r - 1 = n - i - (2 + L) ∧ C - i - (1 + L) - 1 = C - i - (2 + L) by have := HR.out; omega)
            have hr10 := hr3
            clear hr3 hr10
            refine Held.mk ?_
            cases hmb : decide (may ⟨txtN L (fun j => f (i + (1 + j))), .empty, true⟩) with
            | true =>
              have HMy : Hid (may ⟨txtN L (fun j => f (i + (1 + j))), .empty, true⟩) := hidIt (of_decide_eq_true hmb)
              have HE := hidIt (mayE_yes HMy.out)
              clear hmb
              go_wp2_with (first
                | (refine wpList_load_rec rfl 78 (.tmp 9) rfl W3.heap.size 0 [.slice xa xn xC, .slice none 0 0, .bool true] rfl _ Tryz.underlying78 rfl pair_size P6.out ?_)
                | (go_at_call 51; refine (rcheck_any (x := PV.mk (.slice xa xn xC) (.slice none 0 0) ⟨txtN L (fun j => f (i + (1 + j))), .empty, true⟩) (N := []) (OK6.out [] (fun _ q => by cases q))).mono ?_; rintro e W7 ⟨rfl, hb⟩; rw [HE.out]; have E7 := hidIt hb; have P7 := hidIt (P6.out.below hb); clear hb; refine Held.out ?_))
              have z7 : Below wr.heap.size wr W7 := E6.out.trans (E7.out.mono E6.out.size)
              have PO : PVOk W7 u4.ownBlock.toList (PV.mk (.slice xa xn xC) (.slice none 0 0) ⟨txtN L (fun j => f (i + (1 + j))), .empty, true⟩) := (OK6.out u4.ownBlock.toList (own_lt hI.out.own)).below E7.out
              have A8 : Below W7.heap.size W7 (W7.alloc (.cells (PV.mk (.slice xa xn xC) (.slice none 0 0) ⟨txtN L (fun j => f (i + (1 + j))), .empty, true⟩).cs.toArray 78)) := (Below.refl _ _).alloc (Nat.le_refl _) _
              have L8 : Lone (W7.alloc (.cells (PV.mk (.slice xa xn xC) (.slice none 0 0) ⟨txtN L (fun j => f (i + (1 + j))), .empty, true⟩).cs.toArray 78)) W7.heap.size (PV.mk (.slice xa xn xC) (.slice none 0 0) ⟨txtN L (fun j => f (i + (1 + j))), .empty, true⟩) := ⟨heap_alloc_new W7 _, PO.one⟩
              have z8 := z7.trans (A8.mono z7.size)
              obtain ⟨v9, W9, hr9, I9⟩ := app_pairs 22 _ u4 os [(PV.mk (.slice xa xn xC) (.slice none 0 0) ⟨txtN L (fun j => f (i + (1 + j))), .empty, true⟩)] ⟨W7.heap.size, 0, none⟩ 1 (hI.out.own.below z8) (fun j u hj => by rw [pcs_single] at hj; rw [Addr.add_mid, Nat.zero_add]; exact L8.cell j u hj) (by rw [pcs_single]; exact L8.2) (by simp) (by have := hI.out.few; have := LT.out; have := HC.out.2; simp; omega)
              simp only [List.length_singleton, PV.cs] at hr9
              have NX := hidIt (TaJ.next (x := (PV.mk (.slice xa xn xC) (.slice none 0 0) ⟨txtN L (fun j => f (i + (1 + j))), .empty, true⟩)) (ad := cutP b (o + i + (1 + L)) 1 1 (C - i - (1 + L))) (fun _ _ _ _ h => tpR_le h) hI.out LT.out HT.out HMy.out z8 (PO.below A8) I9 (fun hc => by rw [cut_in _ _ _ _ (by have := NC.out; omega), show o + i + (1 + L) + 1 = o + i + (2 + L) by omega]))
              have CP := hidIt (tpR_le HT.out)
              clear PO A8 L8 z7 z8 I9
              refine Held.mk ?_
              go_wp2_with (refine wpList_load_rec rfl 78 (.tmp 9) rfl W3.heap.size 0 [.slice xa xn xC, .slice none 0 0, .bool true] rfl _ Tryz.underlying78 rfl pair_size P7.out ?_)
              exact ⟨⟨i + (2 + L), _, by have := NX; rw [← HA9.out.1, ← HA9.out.2] at this; exact this⟩, by show lenSl _ < n - i; have := CP.out; have := HR.out; simp only [lenSl]; omega⟩
            | false =>
              have HMn : Hid (¬ may ⟨txtN L (fun j => f (i + (1 + j))), .empty, true⟩) := hidIt (of_decide_eq_false hmb)
              have HE := hidIt (mayE_not HMn.out)
              have NO := hidIt (hI.out.none LT.out (.inr ⟨_, _, HT.out, HMn.out⟩))
              clear hmb
              go_wp2_with (first
                | (refine wpList_load_rec rfl 78 (.tmp 9) rfl W3.heap.size 0 [.slice xa xn xC, .slice none 0 0, .bool true] rfl _ Tryz.underlying78 rfl pair_size P6.out ?_)
                | (go_at_call 51; refine (rcheck_any (x := PV.mk (.slice xa xn xC) (.slice none 0 0) ⟨txtN L (fun j => f (i + (1 + j))), .empty, true⟩) (N := []) (OK6.out [] (fun _ q => by cases q))).mono ?_; rintro e W7 ⟨rfl, hb⟩; rw [HE.out]; have E7 := hidIt (hI.out.below.trans ((E6.out.trans (hb.mono E6.out.size)).mono hI.out.below.size)); clear hb))
              exact bodyPost_ret (v := .tuple #[.slice none 0 0, .int .i64 13]) (by simp [results, Tryz.results15, go_sem]) rfl (ux_none E7.out NO.out)
          · have g1 : ((M : Int) == 255) = false := by rw [beq_eq_false_iff_ne]; omega
            have g2 : ((M : Int) = 255) = False := eq_false (by omega)
            have g3 : (M = 255) = False := eq_false hg
            have HG := hidIt hg
            by_cases h3 : r < 1 + M
            · have NO := hidIt (hI.out.none LT.out (.inl (tp_no3 (f := fun j => f (i + j)) HF.out HB.out HM.out hg (by rw [← HR.out]; exact h3))))
              have H3 := hidIt h3
              clear h3 hg
              refine Held.mk ?_
              go_wp2_with (first
                | (refine wpList_run_w (by rfl) (.slice (some ⟨W2.heap.size, 0, none⟩) 0 0) (W2.alloc (.cells #[] 5)) (bs0_run rfl) ?_)
                | (refine wpList_alloc_rec rfl 78 rfl _ W3.heap.size rfl pair_zero ?_; intro W4 R4 B4 z4; have E4 := hidIt B4; have P4 := hidIt R4; clear R4 B4 z4)
                | (refine wpList_store_rec rfl 78 (.tmp 9) (.tmp 33) rfl W3.heap.size 0 _ [.slice xa xn xC, .slice none 0 0, .bool false] rfl rfl P4.out rfl pair_size (by intro u hu; simp only [List.mem_cons, List.not_mem_nil, or_false] at hu; rcases hu with rfl | rfl | rfl <;> rfl) ?_; intro W5 R5 B5; have E5 := hidIt (E4.out.trans (B5.below (Nat.le_refl _) E4.out.size)); have P5 := hidIt R5; have c5 := CE.out W5 (E3.out.trans (E5.out.mono E3.out.size)); clear R5 B5)
                | (go_at_call 55; refine (xtake_no W5 b (o + i + (1 + L)) r (C - i - (1 + L)) M (fun j => f (i + (1 + L + j))) (by have := HR.out; have := HB.out; omega) (by have q := (LI.out.below (E3.out.trans (E5.out.mono E3.out.size))).part (1 + L) r (by have := HR.out; have := HB.out; omega); exact q) (by have := HR.out; have := NC.out; omega) (by have := HR.out; have := NC.out; omega) HM.out H3.out).mono ?_; rintro e W6 ⟨rfl, b6⟩; have E6 := hidIt (hI.out.below.trans (((E3.out.trans (E5.out.mono E3.out.size)).trans (b6.mono (Nat.le_trans E3.out.size E5.out.size))).mono hI.out.below.size)); clear b6))
              exact bodyPost_ret (v := .tuple #[.slice none 0 0, .int .i64 13]) (by simp [results, Tryz.results15, go_sem]) rfl (ux_none E6.out NO.out)
            · have HT := hidIt (tp_val (f := fun j => f (i + j)) HF.out HB.out HM.out hg (by rw [← HR.out]; exact h3))
              have H3 := hidIt h3
              clear h3 hg
              refine Held.mk ?_
              go_wp2_with (first
                | (refine wpList_run_w (by rfl) (.slice (some ⟨W2.heap.size, 0, none⟩) 0 0) (W2.alloc (.cells #[] 5)) (bs0_run rfl) ?_)
                | (refine wpList_alloc_rec rfl 78 rfl _ W3.heap.size rfl pair_zero ?_; intro W4 R4 B4 z4; have E4 := hidIt B4; have P4 := hidIt R4; clear R4 B4 z4)
                | (refine wpList_store_rec rfl 78 (.tmp 9) (.tmp 33) rfl W3.heap.size 0 _ [.slice xa xn xC, .slice none 0 0, .bool false] rfl rfl P4.out rfl pair_size (by intro u hu; simp only [List.mem_cons, List.not_mem_nil, or_false] at hu; rcases hu with rfl | rfl | rfl <;> rfl) ?_; intro W5 R5 B5; have E5 := hidIt (E4.out.trans (B5.below (Nat.le_refl _) E4.out.size)); have P5 := hidIt R5; have c5 := CE.out W5 (E3.out.trans (E5.out.mono E3.out.size)); clear R5 B5)
                | (go_at_call 55; refine (xtake_yes W5 b (o + i + (1 + L)) r (C - i - (1 + L)) M (fun j => f (i + (1 + L + j))) (by have := HR.out; have := HB.out; omega) (by have q := (LI.out.below (E3.out.trans (E5.out.mono E3.out.size))).part (1 + L) r (by have := HR.out; have := HB.out; omega); exact q) (by have := HR.out; have := NC.out; omega) (by have := HR.out; have := NC.out; omega) HM.out H3.out).mono ?_; rintro e Wa ⟨rfl, b6⟩; have Ea := hidIt b6; have Pa := hidIt (P5.out.below b6); clear b6 c5; refine Held.out ?_))
              have wa := E3.out.trans (E5.out.mono E3.out.size)
              have wb := wa.trans (Ea.out.mono wa.size)
              obtain ⟨vb, Wb, hrb, Tb, Bb, ya, yn, yC, rfl⟩ := app_zero Wa b (o + i + (1 + L) + 1) M (C - i - (1 + L) - 1) (fun j => f (i + (1 + L + (1 + j)))) (.inl (by have q := (LI.out.below wb).part (1 + L + 1) M (by have := HR.out; have := H3.out; have := HB.out; omega); have e : (fun j => f (i + (1 + L + 1 + j))) = fun j => f (i + (1 + L + (1 + j))) := (by funext j; rw [Nat.add_assoc (1 + L) 1 j]); rw [e] at q; exact q)) (by have := MS.out; omega) (cutP b (o + i + (1 + L)) 1 1 (C - i - (1 + L))) (fun h0 => cut_in _ _ _ _ (by have := HR.out; have := H3.out; have := NC.out; omega)) 23
              have TV := hidIt Tb
              have Pb := hidIt (Pa.out.below Bb)
              have Zb := hidIt (E5.out.trans ((Ea.out.trans (Bb.mono Ea.out.size)).mono E5.out.size))
              have ab := hidIt (Nat.le_trans wa.size Ea.out.size)
              clear Tb Bb wa wb hr3
              refine Held.mk ?_
              go_wp2_with (first
                | (refine wpList_run_w (by rfl) (.slice (some ⟨Wa.heap.size, 0, none⟩) 0 0) (Wa.alloc (.cells #[] 5)) (bs0_run rfl) ?_)
                | (refine wpList_put_rec rfl 23 (.tmp 52) (.tmp 51) rfl W3.heap.size 1 [.slice xa xn xC, .slice none 0 0, .bool false] [.slice ya yn yC] [.slice xa xn xC, .slice ya yn yC, .bool false] (.slice ya yn yC) rfl rfl rfl Pb.out (by show 1 + 1 ≤ 3; omega) rfl (by kernel_rfl) (by intro u hu; rcases List.mem_singleton.1 hu with rfl; rfl) ?_; intro W6 R6 B6 z6; have Z6 := hidIt (Zb.out.trans (B6.below (Nat.le_refl _) Zb.out.size)); have E6 := hidIt (E3.out.trans (Z6.out.mono E3.out.size)); have P6 := hidIt R6; have BN := hidIt B6; clear R6 B6 z6; refine Held.out ?_))
              have OK6 : Hid (∀ N : List Nat, (∀ b, b ∈ N → b < wr.heap.size) → PVOk W6 N (PV.mk (.slice xa xn xC) (.slice ya yn yC) ⟨txtN L (fun j => f (i + (1 + j))), txtN M (fun j => f (i + (1 + L + (1 + j)))), false⟩)) := hidIt fun N hN => ⟨(TK.out N (fun b hb => Nat.lt_of_lt_of_le (hN b hb) E2.out.size)).below Z6.out, (fun (q : Txt Wb (W3.heap.size :: N) (.slice ya yn yC) (txtN M (fun j => f (i + (1 + L + (1 + j)))))) => (q.off (Off.but (bs := [W3.heap.size]) BN.out (by simp) |>.mono (by simp))).mono (fun b hb => .inl (List.mem_cons_of_mem _ hb))) (TV.out (W3.heap.size :: N) (fun c hc => (List.mem_cons.1 hc).elim (fun q => by rw [q]; exact Pa.out.2.2) (fun q => Nat.lt_of_lt_of_le (hN c q) ab.out)))⟩
              have HA9 := hidIt (show r - (1 + M) = n - i - (2 + L + M) ∧ C - i - (1 + L) - (1 + M) = C - i - (2 + L + M) by have := HR.out; omega)
              clear hrb
              refine Held.mk ?_
              cases hmb : decide (may ⟨txtN L (fun j => f (i + (1 + j))), txtN M (fun j => f (i + (1 + L + (1 + j)))), false⟩) with
              | true =>
                have HMy : Hid (may ⟨txtN L (fun j => f (i + (1 + j))), txtN M (fun j => f (i + (1 + L + (1 + j)))), false⟩) := hidIt (of_decide_eq_true hmb)
                have HE := hidIt (mayE_yes HMy.out)
                clear hmb
                go_wp2_with (first
                  | (refine wpList_load_rec rfl 78 (.tmp 9) rfl W3.heap.size 0 [.slice xa xn xC, .slice ya yn yC, .bool false] rfl _ Tryz.underlying78 rfl pair_size P6.out ?_)
                  | (go_at_call 51; refine (rcheck_any (x := PV.mk (.slice xa xn xC) (.slice ya yn yC) ⟨txtN L (fun j => f (i + (1 + j))), txtN M (fun j => f (i + (1 + L + (1 + j)))), false⟩) (N := []) (OK6.out [] (fun _ q => by cases q))).mono ?_; rintro e W7 ⟨rfl, hb⟩; rw [HE.out]; have E7 := hidIt hb; have P7 := hidIt (P6.out.below hb); clear hb; refine Held.out ?_))
                have z7 : Below wr.heap.size wr W7 := E6.out.trans (E7.out.mono E6.out.size)
                have PO : PVOk W7 u4.ownBlock.toList (PV.mk (.slice xa xn xC) (.slice ya yn yC) ⟨txtN L (fun j => f (i + (1 + j))), txtN M (fun j => f (i + (1 + L + (1 + j)))), false⟩) := (OK6.out u4.ownBlock.toList (own_lt hI.out.own)).below E7.out
                have A8 : Below W7.heap.size W7 (W7.alloc (.cells (PV.mk (.slice xa xn xC) (.slice ya yn yC) ⟨txtN L (fun j => f (i + (1 + j))), txtN M (fun j => f (i + (1 + L + (1 + j)))), false⟩).cs.toArray 78)) := (Below.refl _ _).alloc (Nat.le_refl _) _
                have L8 : Lone (W7.alloc (.cells (PV.mk (.slice xa xn xC) (.slice ya yn yC) ⟨txtN L (fun j => f (i + (1 + j))), txtN M (fun j => f (i + (1 + L + (1 + j)))), false⟩).cs.toArray 78)) W7.heap.size (PV.mk (.slice xa xn xC) (.slice ya yn yC) ⟨txtN L (fun j => f (i + (1 + j))), txtN M (fun j => f (i + (1 + L + (1 + j)))), false⟩) := ⟨heap_alloc_new W7 _, PO.one⟩
                have z8 := z7.trans (A8.mono z7.size)
                obtain ⟨v9, W9, hr9, I9⟩ := app_pairs 22 _ u4 os [(PV.mk (.slice xa xn xC) (.slice ya yn yC) ⟨txtN L (fun j => f (i + (1 + j))), txtN M (fun j => f (i + (1 + L + (1 + j)))), false⟩)] ⟨W7.heap.size, 0, none⟩ 1 (hI.out.own.below z8) (fun j u hj => by rw [pcs_single] at hj; rw [Addr.add_mid, Nat.zero_add]; exact L8.cell j u hj) (by rw [pcs_single]; exact L8.2) (by simp) (by have := hI.out.few; have := LT.out; have := HC.out.2; simp; omega)
                simp only [List.length_singleton, PV.cs] at hr9
                have NX := hidIt (TaJ.next (x := (PV.mk (.slice xa xn xC) (.slice ya yn yC) ⟨txtN L (fun j => f (i + (1 + j))), txtN M (fun j => f (i + (1 + L + (1 + j)))), false⟩)) (ad := cutP b (o + i + (1 + L)) (1 + M) 1 (C - i - (1 + L))) (fun _ _ _ _ h => tpR_le h) hI.out LT.out HT.out HMy.out z8 (PO.below A8) I9 (fun hc => by rw [cut_in _ _ _ _ (by have := NC.out; omega), show o + i + (1 + L) + (1 + M) = o + i + (2 + L + M) by omega]))
                have CP := hidIt (tpR_le HT.out)
                clear PO A8 L8 z7 z8 I9
                refine Held.mk ?_
                go_wp2_with (refine wpList_load_rec rfl 78 (.tmp 9) rfl W3.heap.size 0 [.slice xa xn xC, .slice ya yn yC, .bool false] rfl _ Tryz.underlying78 rfl pair_size P7.out ?_)
                exact ⟨⟨i + (2 + L + M), _, by have := NX; rw [← HA9.out.1, ← HA9.out.2] at this; exact this⟩, by show lenSl _ < n - i; have := CP.out; have := HR.out; simp only [lenSl]; omega⟩
              | false =>
                have HMn : Hid (¬ may ⟨txtN L (fun j => f (i + (1 + j))), txtN M (fun j => f (i + (1 + L + (1 + j)))), false⟩) := hidIt (of_decide_eq_false hmb)
                have HE := hidIt (mayE_not HMn.out)
                have NO := hidIt (hI.out.none LT.out (.inr ⟨_, _, HT.out, HMn.out⟩))
                clear hmb
                go_wp2_with (first
                  | (refine wpList_load_rec rfl 78 (.tmp 9) rfl W3.heap.size 0 [.slice xa xn xC, .slice ya yn yC, .bool false] rfl _ Tryz.underlying78 rfl pair_size P6.out ?_)
                  | (go_at_call 51; refine (rcheck_any (x := PV.mk (.slice xa xn xC) (.slice ya yn yC) ⟨txtN L (fun j => f (i + (1 + j))), txtN M (fun j => f (i + (1 + L + (1 + j)))), false⟩) (N := []) (OK6.out [] (fun _ q => by cases q))).mono ?_; rintro e W7 ⟨rfl, hb⟩; rw [HE.out]; have E7 := hidIt (hI.out.below.trans ((E6.out.trans (hb.mono E6.out.size)).mono hI.out.below.size)); clear hb))
                exact bodyPost_ret (v := .tuple #[.slice none 0 0, .int .i64 13]) (by simp [results, Tryz.results15, go_sem]) rfl (ux_none E7.out NO.out)
    · have hz : n - i = 0 := by omega
      rw [hz]
      obtain ⟨la, lc, hlv, _⟩ := hI.out.own.slice
      subst hlv
      have PA : Hid (paR tpR n f n = some (os.map PV.p)) := hidIt (by rw [hI.out.par n (Nat.le_refl _), hz, paR_nil]; simp)
      have LS := hidIt (OwnP.lst hI.out.own (fun x hx => (hI.out.frs x hx).mono (fun b hb => by cases hb)))
      have FW := hidIt (show os.length ≤ 100000 by have := hI.out.few; have := hI.out.le; have := HC.out.2; omega)
      have BAD : Hid (∀ w', Below W.heap.size W w' → ¬ Bod f n (os.map PV.p) → UxP W n f (.returned (.tuple #[.slice none 0 0, .int .i64 13])) w') := hidIt fun w' hB hN => ⟨hB, .inr ⟨rfl, fun l hl => hN (by have q := hl.2.1; rw [PA.out] at q; injection q with q; rw [q]; exact hl)⟩⟩
      clear had hlt hz
      by_cases h0 : os = []
      · have FIN := hidIt (BAD.out wr hI.out.below (fun h => h.2.2.2 (by rw [h0]; rfl)))
        have c2 : ((os.length : Int) == 0) = true := by rw [h0]; rfl
        have c3 : (os.length = 0) = True := eq_true (by rw [h0]; rfl)
        have c4 : (os = []) = True := eq_true h0
        have H0 := hidIt h0
        clear h0
        go_wp2_with fail
        exact bodyPost_ret (v := .tuple #[.slice none 0 0, .int .i64 13]) (by simp [results, Tryz.results15, go_sem]) rfl FIN.out
      · have hlen : os.length ≠ 0 := fun q => h0 (List.eq_nil_of_length_eq_zero q)
        have c2 : ((os.length : Int) == 0) = false := by rw [beq_eq_false_iff_ne]; omega
        have c3 : (os.length = 0) = False := eq_false hlen
        have c4 : (os = []) = False := eq_false h0
        have H0 := hidIt h0
        clear h0 hlen
        by_cases h8 : 860 < (n : Int)
        · have c5 : (860 < (n : Int)) = True := eq_true h8
          have FIN := hidIt (BAD.out wr hI.out.below (fun h => by have := h.1; omega))
          clear h8
          go_wp2_with fail
          exact bodyPost_ret (v := .tuple #[.slice none 0 0, .int .i64 13]) (by simp [results, Tryz.results15, go_sem]) rfl FIN.out
        · have c5 : (860 < (n : Int)) = False := eq_false h8
          have H8 := hidIt (show n ≤ 860 by omega)
          clear h8
          go_wp2_with (go_at_call 50; refine (rsorted_any os.length lc rfl LS.out FW.out).mono ?_; rintro e W2 ⟨sb, rfl, hs, hb⟩; have B2 := hidIt hb; have SB := hidIt hs; clear hs hb; refine Held.out ?_)
          have E2 := hidIt (hI.out.below.trans (B2.out.mono hI.out.below.size))
          refine Held.mk ?_
          cases sb with
          | false =>
            have FIN := hidIt (BAD.out W2 E2.out (fun h => by have := SB.out.2 h.2.2.1; cases this))
            go_wp2_with fail
            exact bodyPost_ret (v := .tuple #[.slice none 0 0, .int .i64 13]) (by simp [results, Tryz.results15, go_sem]) rfl FIN.out
          | true =>
            go_wp2_with fail
            exact bodyPost_ret (v := .tuple #[.slice la os.length lc, .int .i64 0]) (by simp [results, Tryz.results15, go_sem]) rfl ⟨E2.out, .inl ⟨la, lc, os, rfl, LS.out.below B2.out, H8.out, PA.out, SB.out.1 (by trivial), fun q => H0.out (List.map_eq_nil_iff.1 q)⟩⟩
end Go.Proofs.YtblphlcnbnklmaaGreatDoor
namespace Go.Proofs.YtblphlcnbnklmaaGreatDoor
open Go.RowKit
attribute [-go_sem] Builtin.append_
/-- What LargePairs answers. -/
def LgP8 (W : World) (ps : List PV) (e : Ending) (w' : World) : Prop := ∃ b : Bool, e = .returned (.bool b) ∧ w' = W ∧ (b = false → ps.length ≤ 80 ∧ ∀ x ∈ ps, Sm x)
set_option maxRecDepth 100000 in
set_option maxHeartbeats 1000000 in
theorem large8_any {W : World} {a : Option Addr} {ps : List PV} (n C : Nat) (hn : ps.length = n) (hL : Lst W a ps) : Calls Tryz.prog 9 #[.slice a n C, .int .i64 80] W (LgP8 W ps) := by
  by_cases hbig : 80 < (n : Int)
  · have e1 : (80 < (n : Int)) = True := eq_true hbig
    clear hbig hL hn
    go_enter Tryz.func9, Tryz.ntmps9
    go_wp2_with fail
    exact bodyPost_ret (v := .bool true) (by simp [results, Tryz.results9, go_sem]) rfl ⟨true, rfl, rfl, fun h => by cases h⟩
  · have e1 : (80 < (n : Int)) = False := eq_false hbig
    have HB := hidIt (show n ≤ 80 by omega)
    have HL := hidIt hL
    have HN := hidIt hn
    clear hbig hL hn
    go_enter Tryz.func9, Tryz.ntmps9
    go_wp2_with fail
    go_loopw [5] (fun i wr => ∃ k : Nat, k ≤ n ∧ i = .int .i64 (k : Int) ∧ wr = W ∧ Hid (∀ j x, j < k → ps[j]? = some x → Sm x)) (fun i _ => n - (RowKit.intOf i).toNat)
    case atStart => exact ⟨0, Nat.zero_le _, rfl, rfl, hidIt (fun j x hj => by omega)⟩
    case round =>
      obtain ⟨k, hk, rfl, hw, hI⟩ := hrel
      subst hw
      by_cases hlt : k < n
      · obtain ⟨x, hx⟩ : ∃ x, ps[k]? = some x := ⟨_, List.getElem?_eq_getElem (by have := HN.out; omega)⟩
        obtain ⟨b1, o1, ha, hr1, _⟩ := HL.out.at k x hx
        have ok := HL.out.1 x (List.mem_of_getElem? hx)
        have HX := hidIt hx
        obtain ⟨xk, xv, xp⟩ := x
        obtain ⟨⟨a1, C1, f1, hxk, _⟩, a2, C2, f2, hxv, _⟩ := ok
        simp only at hxk hxv
        subst ha hxk hxv
        obtain ⟨q1, q2, _⟩ := three_cells hr1
        have SM : Hid (Sm ⟨.slice a1 xp.k.size C1, .slice a2 xp.v.size C2, xp⟩ ↔ xp.k.size ≤ 200 ∧ xp.v.size ≤ 200) := hidIt Iff.rfl
        have LT := hidIt hlt
        obtain ⟨i0, i1, i2, i3⟩ := k_ar k n hlt (by have := HB.out; omega)
        clear hr1 hx hlt hk
        simp only at q1 q2
        generalize xp.k.size = kn at *
        generalize xp.v.size = vn at *
        by_cases h1 : 200 < (kn : Int)
        · have c1 : (200 < (kn : Int)) = True := eq_true h1
          clear h1
          go_wp2_with fail
          exact bodyPost_ret (v := .bool true) (by simp [results, Tryz.results9, go_sem]) rfl ⟨true, rfl, rfl, fun h => by cases h⟩
        · have c1 : (200 < (kn : Int)) = False := eq_false h1
          by_cases h2 : 200 < (vn : Int)
          · have c2 : (200 < (vn : Int)) = True := eq_true h2
            clear h1 h2
            go_wp2_with fail
            exact bodyPost_ret (v := .bool true) (by simp [results, Tryz.results9, go_sem]) rfl ⟨true, rfl, rfl, fun h => by cases h⟩
          · have c2 : (200 < (vn : Int)) = False := eq_false h2
            have NX := hidIt (SM.out.2 ⟨by omega, by omega⟩)
            clear h1 h2
            go_wp2_with fail
            refine ⟨⟨k + 1, LT.out, rfl, trivial, hidIt (fun j y hj hy => ?_)⟩, meas_k n k _ rfl LT.out⟩
            by_cases e : j = k
            · subst e
              rw [HX.out] at hy
              injection hy with hy
              rw [← hy]
              exact NX.out
            · exact hI.out j y (by omega) hy
      · have i0 : ((k : Int) < (n : Int)) = False := eq_false (by omega)
        have AL : Hid (ps.length ≤ 80 ∧ ∀ x ∈ ps, Sm x) := hidIt ⟨by have := HN.out; have := HB.out; omega, fun x hx => by
          obtain ⟨j, hj, rfl⟩ := List.getElem_of_mem hx
          exact hI.out j _ (by have := HN.out; omega) (List.getElem?_eq_getElem hj)⟩
        clear hlt hk
        go_wp2_with fail
        exact bodyPost_ret (v := .bool false) (by simp [results, Tryz.results9, go_sem]) rfl ⟨false, rfl, rfl, fun _ => AL.out⟩
theorem no_bod (f : Nat → Int) (l : List Pr) : ¬ Bod f 0 l := fun h => by
  have := h.2.1
  rw [paR_nil] at this
  injection this with q
  exact h.2.2.2 q.symm
set_option maxRecDepth 100000 in
set_option maxHeartbeats 1000000 in
theorem runpack_nil (W : World) (a : Option Addr) (C : Nat) (f : Nat → Int) : Calls Tryz.prog 15 #[.slice a 0 C] W (UxP W 0 f) := by
  go_enter Tryz.func15, Tryz.ntmps15
  go_wp2_with fail
  refine wp_loop_rounds 1 ?_
  rw [rounds_succ]
  go_wp2_with fail
  exact bodyPost_ret (v := .tuple #[.slice none 0 0, .int .i64 13]) (by simp [results, Tryz.results15, go_sem]) rfl ⟨Below.refl _ _, .inr ⟨rfl, no_bod f⟩⟩
theorem runpack_any (W : World) (a : Option Addr) (n C : Nat) (f : Nat → Int) (h : Arg W a n f) (hC : n ≤ C) (hn : n ≤ 100000) : Calls Tryz.prog 15 #[.slice a n C] W (UxP W n f) := by
  rcases h with ⟨h0, _⟩ | ⟨_, b, off, rfl, hl⟩
  · subst h0
    exact runpack_nil W a C f
  · exact runpack_ok W b off n C f hl hC hn
open Classical in
/-- The bodies of pairs, and the error. -/
noncomputable def packL (l : List Pr) : List (List Int) := if Good l then (packG [] l).map bodL else []
open Classical in
noncomputable def packE (l : List Pr) : Int := if Good l then 0 else 2
open Classical in
/-- The pairs of a body, and the error. -/
noncomputable def unL (n : Nat) (f : Nat → Int) : List Pr := if ∃ l, Bod f n l then (paR tpR n f n).getD [] else []
open Classical in
noncomputable def unE (n : Nat) (f : Nat → Int) : Int := if ∃ l, Bod f n l then 0 else 13
theorem unL_of {n : Nat} {f : Nat → Int} {l : List Pr} (h : Bod f n l) : unL n f = l ∧ unE n f = 0 := by
  unfold unL unE
  rw [if_pos ⟨l, h⟩, if_pos ⟨l, h⟩, h.2.1]
  exact ⟨rfl, rfl⟩
theorem unL_no {n : Nat} {f : Nat → Int} (h : ∀ l, ¬ Bod f n l) : unL n f = [] ∧ unE n f = 13 := by
  have q : ¬ ∃ l, Bod f n l := fun ⟨l, hl⟩ => h l hl
  unfold unL unE
  rw [if_neg q, if_neg q]
  exact ⟨rfl, rfl⟩
/-- The bodies of pairs lie in memory. -/
structure BdsU (w : World) (base : Nat) (a : Option Addr) (m C : Nat) (bs : List BV) : Prop where
  len : m = bs.length
  own : w.ownsRow base 23 1 (.slice a m C) m (bs.map BV.v)
  ok : ∀ x ∈ bs, BVOk w base (Value.ownBlock (.slice a m C)).toList x
theorem pc_form {W w' : World} {l : List Pr} {e : Ending} (h : PcP W l e w') : Below W.heap.size W w' ∧ ∃ a m C bs, e = .returned (.tuple #[.slice a m C, .int .i64 (packE l)]) ∧ BdsU w' W.heap.size a m C bs ∧ bs.map BV.L = packL l ∧ (∀ x ∈ bs, RowU w' x.v) ∧ bs.Pairwise (fun x y => x.v.ownBlock ≠ y.v.ownBlock) := by
  obtain ⟨hB, ⟨hG, a, m, C, bs, rfl, hb, h1, h2⟩ | ⟨hG, rfl⟩⟩ := h
  · exact ⟨hB, a, m, C, bs, by unfold packE; rw [if_pos hG], ⟨hb.1, hb.2.1, hb.2.2.2⟩, by unfold packL; rw [if_pos hG]; exact hb.2.2.1, h1, h2⟩
  · exact ⟨hB, none, 0, 0, [], by unfold packE; rw [if_neg hG], ⟨rfl, World.ownsRow_nil _ _ _ _, fun x hx => by cases hx⟩, by unfold packL; rw [if_neg hG]; rfl, fun x hx => (by cases hx), List.Pairwise.nil⟩
theorem rc_form {W w' : World} {l : List Pr} {e : Ending} (h : PcR W l e w') : Below W.heap.size W w' ∧ ∃ a m C bs, e = .returned (.tuple #[.slice a m C, .int .i64 (packE l)]) ∧ BdsU w' W.heap.size a m C bs ∧ bs.map BV.L = packL l := by
  obtain ⟨hB, ⟨hG, a, m, C, bs, rfl, hb⟩ | ⟨hG, rfl⟩⟩ := h
  · exact ⟨hB, a, m, C, bs, by unfold packE; rw [if_pos hG], ⟨hb.1, hb.2.1, hb.2.2.2⟩, by unfold packL; rw [if_pos hG]; exact hb.2.2.1⟩
  · exact ⟨hB, none, 0, 0, [], by unfold packE; rw [if_neg hG], ⟨rfl, World.ownsRow_nil _ _ _ _, fun x hx => by cases hx⟩, by unfold packL; rw [if_neg hG]; rfl⟩
/-- A list that was told lately. -/
structure TldX (w : World) (base : Nat) (v : Value) (os : List PV) : Prop where
  own : OwnP w 0 v os
  new : ∀ g, v.ownBlock = some g → base ≤ g
  frs : ∀ x ∈ os, PVOk w v.ownBlock.toList x
  far : ∀ x ∈ os, Fr w base x.k x.p.k ∧ Fr w base x.v x.p.v
theorem up_form {W w' : World} {n : Nat} {f : Nat → Int} {e : Ending} (h : UnP W n f e w') : Below W.heap.size W w' ∧ ∃ a C os, e = .returned (.tuple #[.slice a (os : List PV).length C, .int .i64 (unE n f)]) ∧ TldX w' W.heap.size (.slice a os.length C) os ∧ os.map PV.p = unL n f := by
  obtain ⟨hB, ⟨lv, os, rfl, h1, h2, h3, h4, h5⟩ | ⟨rfl, hN⟩⟩ := h
  · obtain ⟨a, C, rfl, _⟩ := h1.slice
    exact ⟨hB, a, C, os, by rw [(unL_of h4).2], ⟨h1, h2, h3, h5⟩, (unL_of h4).1.symm⟩
  · exact ⟨hB, none, 0, [], by rw [(unL_no hN).2]; rfl, ⟨OwnP.nil _ _, fun g hg => (by cases hg), fun x hx => (by cases hx), fun x hx => (by cases hx)⟩, (unL_no hN).1.symm⟩
theorem ux_form {W w' : World} {n : Nat} {f : Nat → Int} {e : Ending} (h : UxP W n f e w') : Below W.heap.size W w' ∧ ∃ a C os, e = .returned (.tuple #[.slice a (os : List PV).length C, .int .i64 (unE n f)]) ∧ Lst w' a os ∧ os.map PV.p = unL n f := by
  obtain ⟨hB, ⟨a, C, os, rfl, h1, h4⟩ | ⟨rfl, hN⟩⟩ := h
  · exact ⟨hB, a, C, os, by rw [(unL_of h4).2], h1, (unL_of h4).1.symm⟩
  · exact ⟨hB, none, 0, [], by rw [(unL_no hN).2]; rfl, ⟨fun x hx => (by cases hx), fun hne => absurd rfl hne⟩, (unL_no hN).1.symm⟩
end Go.Proofs.YtblphlcnbnklmaaGreatDoor
namespace Go.Proofs.YtblphlcnbnklmaaGreatDoor
open Go.RowKit
theorem hsz_set {W : World} {g i : Nat} {u v : Value} (h : W.cell? ⟨g, i, none⟩ = some u) : hsz (W.setCell ⟨g, i, none⟩ v) g = hsz W g := by
  obtain ⟨o, ho, hc⟩ := cell_cells h
  cases o with
  | cells cur t fr =>
    have hg : W.heap[g]? = some (.cells cur t fr) := ho
    rw [setCell_eq_setRow W g i cur t fr v hg]
    unfold hsz
    rw [setRow_heap W g cur _ _ _ hg, hg]
    simp
  | _ => cases hc
def ovRelH (w : World) (g C : Nat) (F : Nat → Int) (i : Value) (wr : World) : Prop := ovRel w g C F i wr ∧ hsz wr g = hsz w g
set_option maxRecDepth 100000 in
set_option maxHeartbeats 1000000 in
theorem over_big (g n C : Nat) (F : Nat → Int) (w : World) (h : IRow w g .u8 C F) (hn : n ≤ C) (hC : C ≤ maxLen) :
    Calls Tryz.prog 19 #[.slice (some ⟨g, 0, none⟩) n C] w fun e w' => e = .returned (.tuple #[]) ∧ IRow w' g .u8 C (fun j => ov (F j)) ∧ But g w w' ∧ hsz w' g = hsz w g := by
  have ST : Hid (ovRelH w g C F (.int .i64 0) w) := ⟨⟨0, by omega, rfl, h.congr (fun j _ => by unfold ovF; rw [if_neg (by omega)]), But.refl _ _⟩, rfl⟩
  unfold maxLen at hC
  clear h
  have e0 : (0 : Int) ≤ (C : Int) := by omega
  have e1 : (n : Int) ≤ C := by omega
  go_enter Tryz.func19, Tryz.ntmps19
  go_wp2_with fail
  go_loopw [3] (fun i wr => ovRelH w g C F i wr) (fun i _ => C - (RowKit.intOf i).toNat)
  case atStart => exact ST.out
  case round =>
    obtain ⟨⟨k, hk, rfl, hR, hB⟩, hz⟩ := hrel
    have HZ := hidIt hz
    clear ST hz
    have RR : Hid (IRow wr g .u8 C (ovF F k)) := hR
    have BE : Hid (But g w wr) := hB
    clear hB
    by_cases hlt : k < C
    · have c := hR.1 k hlt
      rw [ovF_at] at c
      have fr := hR.2.1 k
      have HS : Hid (∀ v, hsz (wr.setCell ⟨g, k, none⟩ v) g = hsz wr g) := hidIt (fun v => hsz_set c)
      clear hR
      have i0 : (k : Int) < C := by omega
      have i1 : (0 : Int) ≤ (k : Int) := by omega
      have i2 : wrap64 ((k : Int) + 1) = (k : Int) + 1 := by unfold wrap64; omega
      have i3 : IntKind.i64.wrap ((k : Int) + 1) = (k : Int) + 1 := by rw [IntKind.wrap_i64]; omega
      have eo : bits .xor .u8 (F k) 90 = ov (F k) := rfl
      go_wp2_with fail
      exact ⟨⟨⟨k + 1, by omega, by go_num, by rw [← ovF_step]; exact RR.out.set k _, BE.out.trans (But.set _ _ _)⟩, (HS.out _).trans HZ.out⟩, by simp [RowKit.intOf]; omega⟩
    · obtain rfl : k = C := by omega
      clear hR
      go_wp2_with fail
      exact bodyPost_end (by simp [results, Tryz.results19, go_sem]) rfl ⟨rfl, RR.out.congr (fun j hj => by unfold ovF; rw [if_pos hj]), BE.out, HZ.out⟩
/-- Bytes that may be written over, apart from the block L. -/
def OvS (W : World) (base L : Nat) (s : Value) : Prop := s = .slice none 0 0 ∨ ∃ g n F, s = .slice (some ⟨g, 0, none⟩) n (hsz W g) ∧ base ≤ g ∧ g ≠ L ∧ n ≤ hsz W g ∧ hsz W g ≤ maxLen ∧ IRow W g .u8 (hsz W g) F
theorem OvS.of {W : World} {base L : Nat} {s : Value} {t : ByteArray} {N : List Nat} (h : Fr W base s t) (k : Txt W N s t) (hL : L ∈ N) : OvS W base L s := by
  rcases h with ⟨_, h⟩ | ⟨g, F, hs, hb, h0, h1, h2, hR, _, _⟩
  · exact .inl h
  · refine .inr ⟨g, t.size, F, hs, hb, fun q => ?_, h1, h2, hR⟩
    obtain ⟨a, C, f, hs', _, _, hn⟩ := k
    rw [hs] at hs'
    injection hs' with ha
    exact hn h0 _ ha.symm (by show g ∈ N; rw [q]; exact hL)
/-- What writing over does to the world. -/
def OvR (base L : Nat) (W W' : World) : Prop := W' = W ∨ ∃ g F, base ≤ g ∧ g ≠ L ∧ But g W W' ∧ hsz W' g = hsz W g ∧ IRow W' g .u8 (hsz W g) F
theorem OvS.keep {base L : Nat} {W W' : World} {s : Value} (h : OvS W base L s) (k : OvR base L W W') : OvS W' base L s := by
  rcases k with rfl | ⟨g, F, hb, hl, hB, hz, hR⟩
  · exact h
  · rcases h with h | ⟨g2, n, F2, hs, hb2, hl2, h1, h2, hR2⟩
    · exact .inl h
    · by_cases e : g2 = g
      · subst e
        exact .inr ⟨g2, n, F, by rw [hz]; exact hs, hb2, hl2, by rw [hz]; exact h1, by rw [hz]; exact h2, by rw [hz]; exact hR⟩
      · have q : hsz W' g2 = hsz W g2 := hsz_eq (hB.block g2 hR2.2.2 e)
        exact .inr ⟨g2, n, F2, by rw [q]; exact hs, hb2, hl2, by rw [q]; exact h1, by rw [q]; exact h2, by rw [q]; exact hR2.but hB e⟩
theorem OvR.below {base L : Nat} {W W' : World} (k : OvR base L W W') (hb : base ≤ W.heap.size) : Below base W W' := by
  rcases k with rfl | ⟨g, F, hg, _, hB, _⟩
  · exact Below.refl _ _
  · exact hB.below hg hb
theorem OvR.rec {base L : Nat} {W W' : World} {cs : List Value} (k : OvR base L W W') (h : Rec19 W L 0 cs) : Rec19 W' L 0 cs := by
  rcases k with rfl | ⟨g, F, _, hl, hB, _⟩
  · exact h
  · exact h.but hB (fun q => hl q.symm)
theorem over_s {base L : Nat} {W : World} {s : Value} (h : OvS W base L s) : Calls Tryz.prog 19 #[s] W fun e w' => e = .returned (.tuple #[]) ∧ OvR base L W w' := by
  rcases h with rfl | ⟨g, n, F, rfl, hb, hl, h1, h2, hR⟩
  · refine (over_nil W).mono ?_
    rintro e w' ⟨rfl, rfl⟩
    exact ⟨rfl, .inl rfl⟩
  · refine (over_big g n _ F W hR h1 h2).mono ?_
    rintro e w' ⟨rfl, h3, h4, h5⟩
    exact ⟨rfl, .inr ⟨g, _, hb, hl, h4, h5, h3⟩⟩
theorem laidL_hi (cs : List Value) (o : Nat) (vs : List Value) (h : o + vs.length ≤ cs.length) (j : Nat) (hj : o + vs.length ≤ j) : (laidL cs o vs)[j]? = cs[j]? := by
  unfold laidL
  have hl : (cs.take o ++ vs).length = o + vs.length := by rw [List.length_append, List.length_take]; omega
  rw [List.getElem?_append_right (by omega), hl, List.getElem?_drop]
  congr 1
  omega
/-- What OverPairs' loop keeps. -/
structure OpI (base L : Nat) (W : World) (os : List PV) (k : Nat) (wr : World) (cs : List Value) : Prop where
  rc : Rec19 wr L 0 cs
  len : cs.length = os.length * 3
  is : ∀ j x q, k ≤ j → os[j]? = some x → q < 3 → cs[j * 3 + q]? = x.cs[q]?
  ovs : ∀ x ∈ os, OvS wr base L x.k ∧ OvS wr base L x.v
  below : Below base W wr
theorem OpI.over {base L : Nat} {W wr w' : World} {os : List PV} {k : Nat} {cs : List Value} (h : OpI base L W os k wr cs) (hR : OvR base L wr w') (hb : base ≤ W.heap.size) : OpI base L W os k w' cs :=
  ⟨hR.rec h.rc, h.len, h.is, fun x hx => ⟨(h.ovs x hx).1.keep hR, (h.ovs x hx).2.keep hR⟩, h.below.trans (hR.below (Nat.le_trans hb h.below.size))⟩
theorem OpI.next {base L : Nat} {W wr w' : World} {os : List PV} {k : Nat} {cs : List Value} (h : OpI base L W os k wr cs) (hk : k < os.length) (hR : Rec19 w' L 0 (laidL cs (k * 3) [.slice none 0 0, .slice none 0 0, .bool false])) (hB : But L wr w') (hL : base ≤ L) (hb : base ≤ W.heap.size) (hne : ∀ x ∈ os, OvS wr base L x.k ∧ OvS wr base L x.v → OvS w' base L x.k ∧ OvS w' base L x.v) : OpI base L W os (k + 1) w' (laidL cs (k * 3) [.slice none 0 0, .slice none 0 0, .bool false]) := by
  have hl : k * 3 + 3 ≤ cs.length := by rw [h.len]; omega
  refine ⟨hR, by rw [laidL_len _ _ _ hl]; exact h.len, fun j x q hj hx hq => ?_, fun x hx => hne x hx (h.ovs x hx), h.below.trans (hB.below hL (Nat.le_trans hb h.below.size))⟩
  rw [laidL_hi _ _ _ hl _ (by show k * 3 + 3 ≤ _; omega)]
  exact h.is j x q (by omega) hx hq
theorem OvS.but {base L : Nat} {W W' : World} {s : Value} (h : OvS W base L s) (hB : But L W W') : OvS W' base L s := by
  rcases h with h | ⟨g2, n, F2, hs, hb2, hl2, h1, h2, hR2⟩
  · exact .inl h
  · have q : hsz W' g2 = hsz W g2 := hsz_eq (hB.block g2 hR2.2.2 hl2)
    exact .inr ⟨g2, n, F2, by rw [q]; exact hs, hb2, hl2, by rw [q]; exact h1, by rw [q]; exact h2, by rw [q]; exact hR2.but hB hl2⟩
set_option maxRecDepth 100000 in
set_option maxHeartbeats 2000000 in
theorem overPairs_any {base : Nat} {W : World} {a : Option Addr} {os : List PV} (n C : Nat) (hn : os.length = n) (hf : n ≤ 100000) (hb : base ≤ W.heap.size) (hA : os ≠ [] → ∃ L, a = some ⟨L, 0, none⟩ ∧ base ≤ L ∧ Rec19 W L 0 (pcs os) ∧ ∀ x ∈ os, OvS W base L x.k ∧ OvS W base L x.v) : Calls Tryz.prog 20 #[.slice a n C] W fun e w' => e = .returned (.tuple #[]) ∧ Below base W w' := by
  by_cases h0 : os = []
  · subst h0
    obtain rfl : n = 0 := by simpa using hn.symm
    clear hA hn hf
    go_enter Tryz.func20, Tryz.ntmps20
    go_wp2_with fail
    refine wp_loop_rounds 1 ?_
    rw [rounds_succ]
    go_wp2_with fail
    exact bodyPost_end (by simp [results, Tryz.results20, go_sem]) rfl ⟨rfl, Below.refl _ _⟩
  · obtain ⟨L, rfl, hL, hR, hO⟩ := hA h0
    have st : Hid (OpI base L W os 0 W (pcs os)) := hidIt ⟨hR, pcs_len os, fun j x q _ hx hq => pcs_at os j q x hx hq, hO, Below.refl _ _⟩
    have HN := hidIt hn
    have HF := hidIt hf
    have HL := hidIt hL
    have HB := hidIt hb
    clear hA h0 hR hO hn hf hL hb
    go_enter Tryz.func20, Tryz.ntmps20
    go_wp2_with fail
    go_loopw [2] (fun i wr => ∃ (k : Nat) (cs : List Value), k ≤ n ∧ i = .int .i64 (k : Int) ∧ Hid (OpI base L W os k wr cs)) (fun i _ => n - (RowKit.intOf i).toNat)
    case atStart => exact ⟨0, _, Nat.zero_le _, rfl, st⟩
    case round =>
      clear st
      obtain ⟨k, cs, hk, rfl, hI⟩ := hrel
      by_cases hlt : k < n
      · obtain ⟨x, hx⟩ : ∃ x, os[k]? = some x := ⟨_, List.getElem?_eq_getElem (by have := HN.out; omega)⟩
        have HX := hidIt hx
        have LT := hidIt hlt
        have CE : Hid (∀ U, OpI base L W os k U cs → U.cell? ⟨L, k * 3, none⟩ = some x.k ∧ U.cell? ⟨L, k * 3 + 1, none⟩ = some x.v) := hidIt (fun U hU => by
          have h0 := hU.is k x 0 (Nat.le_refl _) HX.out (by omega)
          have h1 := hU.is k x 1 (Nat.le_refl _) HX.out (by omega)
          have g0 := (hU.rc.cel (k * 3 + 0) x.k h0).1
          have g1 := (hU.rc.cel (k * 3 + 1) x.v h1).1
          exact ⟨g0, g1⟩)
        obtain ⟨i0, i1, i2, i3⟩ := k_ar k n hlt HF.out
        obtain ⟨c0, _⟩ := CE.out _ hI.out
        have na : Hid True := trivial
        clear hx hlt hk
        go_wp2_with (first
          | (go_at_call 19; have _q := na; clear na _q; refine (over_s (hI.out.ovs x (List.mem_of_getElem? HX.out)).1).mono ?_; rintro e W2 ⟨rfl, hr⟩; have I2 := hidIt (hI.out.over hr HB.out); clear hr c0; obtain ⟨_, c1⟩ := CE.out _ I2.out)
          | (go_at_call 19; refine (over_s (I2.out.ovs x (List.mem_of_getElem? HX.out)).2).mono ?_; rintro e W3 ⟨rfl, hr⟩; have I3 := hidIt (I2.out.over hr HB.out); clear hr c1)
          | (refine wpList_put_rec rfl 78 (.tmp 24) (.tmp 23) rfl L (k * 3) cs [.slice none 0 0, .slice none 0 0, .bool false] _ _ rfl rfl rfl I3.out.rc (by show k * 3 + 3 ≤ cs.length; rw [I3.out.len]; have := LT.out; have := HN.out; omega) rfl (by kernel_rfl) (by intro u hu; simp only [List.mem_cons, List.not_mem_nil, or_false] at hu; rcases hu with rfl | rfl | rfl <;> rfl) ?_; intro W4 R4 B4 z4; have I4 := hidIt (I3.out.next (by have := LT.out; have := HN.out; omega) R4 B4 HL.out HB.out (fun y _ hy => ⟨hy.1.but B4, hy.2.but B4⟩)); clear R4 B4 z4))
        exact ⟨⟨k + 1, _, LT.out, rfl, I4⟩, meas_k n k _ rfl LT.out⟩
      · have i0 : ((k : Int) < (n : Int)) = False := eq_false (by omega)
        have BF := hidIt hI.out.below
        clear hlt hk
        go_wp2_with fail
        exact bodyPost_end (by simp [results, Tryz.results20, go_sem]) rfl ⟨rfl, BF.out⟩
/-- A list that was told lately may be written over. -/
theorem told_over {W : World} {base : Nat} {a : Option Addr} {n C : Nat} {os : List PV} (h1 : OwnP W 0 (.slice a n C) os) (h2 : ∀ g, (Value.slice a n C).ownBlock = some g → base ≤ g) (h3 : ∀ x ∈ os, PVOk W (Value.slice a n C).ownBlock.toList x) (h4 : ∀ x ∈ os, Fr W base x.k x.p.k ∧ Fr W base x.v x.p.v) : os ≠ [] → ∃ L, a = some ⟨L, 0, none⟩ ∧ base ≤ L ∧ Rec19 W L 0 (pcs os) ∧ ∀ x ∈ os, OvS W base L x.k ∧ OvS W base L x.v := fun hne => by
  rcases h1.form with ⟨_, h0⟩ | ⟨g, cap, hv, _, _, _, _, hR⟩
  · exact absurd h0 hne
  · injection hv with ha q2 q3
    subst ha
    refine ⟨g, rfl, h2 g rfl, hR, fun x hx => ?_⟩
    exact ⟨OvS.of (h4 x hx).1 (h3 x hx).1 (by simp [Value.ownBlock]), OvS.of (h4 x hx).2 (h3 x hx).2 (by simp [Value.ownBlock])⟩
/-- A block of numbers of one byte, as over_big wants it. -/
theorem rowU_row {W : World} {v : Value} {b n C : Nat} (hv : v = .slice (some ⟨b, 0, none⟩) n C) (h : RowU W v) : n ≤ C ∧ C ≤ maxLen ∧ ∃ F, IRow W b .u8 C F := by
  subst hv
  obtain ⟨n', C', cur, q1, q2, q3, q4, q5, q6⟩ := h b rfl
  injection q1 with z1 z2 z3
  subst z2 z3
  refine ⟨q2, q3, fun j => match cur[j]? with
    | some (.int _ x) => x
    | _ => 0, fun j hj => ?_, fun j => ?_, (Array.getElem?_eq_some_iff.1 q4).1⟩
  · rw [cell_of_row W b j cur 5 (0, 0) q4]
    have hj' : j < cur.size := by omega
    obtain ⟨x, hx⟩ := q6 cur[j] (Array.getElem_mem_toList hj')
    simp only [Array.getElem?_eq_getElem hj', hx]
  · unfold World.frozen?
    simp only [q4]
    simp
end Go.Proofs.YtblphlcnbnklmaaGreatDoor
namespace Go.Proofs.YtblphlcnbnklmaaGreatDoor
open Go.RowKit
/-- The blocks of bodies. -/
def bdN (bs : List BV) : List Nat := bs.filterMap fun x => x.v.ownBlock
theorem bdN_mem {bs : List BV} {b : Nat} : b ∈ bdN bs ↔ ∃ x ∈ bs, x.v.ownBlock = some b := List.mem_filterMap
theorem BVOk.at_ {w : World} {base : Nat} {N : List Nat} {x : BV} (h : BVOk w base N x) : ∀ b, x.v.ownBlock = some b → base ≤ b ∧ b < w.heap.size ∧ b ∉ N := fun b hb => by
  obtain ⟨b', C, h1, h2, h3, h4, h5⟩ := h
  rw [h1] at hb
  injection hb with hb
  subst hb
  exact ⟨h4, h3.2.2, h5⟩
theorem BdsU.lo {w : World} {base : Nat} {a : Option Addr} {m C : Nat} {bs : List BV} (h : BdsU w base a m C bs) : ∀ b, b ∈ bdN bs → base ≤ b ∧ b < w.heap.size ∧ b ∉ (Value.ownBlock (.slice a m C)).toList := fun b hb => by
  obtain ⟨x, hx, hxb⟩ := bdN_mem.1 hb
  exact (h.ok x hx).at_ b hxb
theorem BdsU.below {w w' : World} {base : Nat} {a : Option Addr} {m C : Nat} {bs : List BV} (h : BdsU w base a m C bs) (hB : Below w.heap.size w w') : BdsU w' base a m C bs := by
  refine ⟨h.len, row_off h.own (Off.of (bs := []) hB) (fun _ _ q => by cases q), fun x hx => ?_⟩
  obtain ⟨b, C', h1, h2, h3, h4, h5⟩ := h.ok x hx
  exact ⟨b, C', h1, h2, h3.below hB, h4, h5⟩
/-- A body's place in the row. -/
theorem BdsU.at_ {w : World} {base : Nat} {a : Option Addr} {m C : Nat} {bs : List BV} {k : Nat} {x : BV} (h : BdsU w base a m C bs) (hk : bs[k]? = some x) : ∃ X, a = some ⟨X, 0, none⟩ ∧ w.cell? ⟨X, k, none⟩ = some x.v ∧ X < w.heap.size ∧ base ≤ X := by
  have hm : k < m := by rw [h.len]; exact (List.getElem?_eq_some_iff.1 hk).1
  rcases h.own.2 with ⟨_, h0⟩ | ⟨g, cap, cur, hv, hb, hg, _⟩
  · omega
  · injection hv with h1 h2 h3
    subst h1 h3
    have q := World.ownsRow.cells (g := g) h.own rfl k x.v (by rw [List.getElem?_map, hk]; rfl)
    rw [Addr.add_mid, Nat.zero_add] at q
    exact ⟨g, rfl, q, (Array.getElem?_eq_some_iff.1 hg).1, hb⟩
/-- What holds at the head of the loop. -/
structure LpI (w9 : World) (base : Nat) (bs : List BV) (k : Nat) (wr : World) : Prop where
  off : Off (bdN bs) w9 wr
  ok : ∀ j x, k ≤ j → bs[j]? = some x → BVOk wr base [] x ∧ RowU wr x.v
theorem LpI.next {w9 wr w' : World} {base k b n C : Nat} {bs : List BV} {x : BV} (h : LpI w9 base bs k wr) (hd : bs.Pairwise (fun x y => x.v.ownBlock ≠ y.v.ownBlock)) (hk : bs[k]? = some x) (hv : x.v = .slice (some ⟨b, 0, none⟩) n C) (hB : But b wr w') : LpI w9 base bs (k + 1) w' := by
  have ho : x.v.ownBlock = some b := by rw [hv]; rfl
  refine ⟨h.off.trans (Off.but hB (bdN_mem.2 ⟨x, List.mem_of_getElem? hk, ho⟩)), fun j y hj hy => ?_⟩
  obtain ⟨h1, h2⟩ := h.ok j y (by omega) hy
  have hne : x.v.ownBlock ≠ y.v.ownBlock := by
    obtain ⟨lk, ek⟩ := List.getElem?_eq_some_iff.1 hk
    obtain ⟨lj, ej⟩ := List.getElem?_eq_some_iff.1 hy
    have := List.pairwise_iff_getElem.1 hd k j lk lj (by omega)
    rwa [ek, ej] at this
  obtain ⟨b', C', q1, q2, q3, q4, q5⟩ := h1
  have hn : b' ≠ b := fun q => hne (by rw [ho, q1, q]; rfl)
  exact ⟨⟨b', C', q1, q2, q3.but hB hn, q4, q5⟩, h2.off (Off.but (bs := [b]) hB (by simp)) (fun g hg q => by
    rw [q1] at hg
    injection hg with hg
    simp only at hg
    rw [← hg] at q
    exact hn (by simpa using q))⟩
theorem LpI.below {w9 wr w' : World} {base k : Nat} {bs : List BV} (h : LpI w9 base bs k wr) (hB : Below wr.heap.size wr w') : LpI w9 base bs k w' := by
  refine ⟨h.off.trans (Off.of hB), fun j y hj hy => ?_⟩
  obtain ⟨⟨b', C', q1, q2, q3, q4, q5⟩, h2⟩ := h.ok j y hj hy
  exact ⟨⟨b', C', q1, q2, q3.below hB, q4, q5⟩, h2.off (N := []) (Off.of hB) (fun _ _ q => by cases q)⟩
theorem par_len : ∀ (k n : Nat) (f : Nat → Int) (l : List Pr), paR tpR k f n = some l → l.length ≤ n
  | 0, n, f, l, h => by
    have h' : (if n = 0 then some [] else none) = some l := h
    split at h'
    · injection h' with q
      rw [← q]
      simp
    · cases h'
  | k + 1, n, f, l, h => by
    have h' : (if n = 0 then some [] else match tpR f n with
        | none => none
        | some (p, c) => if may p then (paR tpR k (fun j => f (c + j)) (n - c)).map (p :: ·) else none) = some l := h
    split at h'
    · injection h' with q
      rw [← q]
      simp
    · cases ht : tpR f n with
      | none => rw [ht] at h'; cases h'
      | some pc =>
        obtain ⟨p, c⟩ := pc
        have hc := tpR_le ht
        rw [ht] at h'
        simp only at h'
        split at h'
        · cases hp : paR tpR k (fun j => f (c + j)) (n - c) with
          | none => rw [hp] at h'; cases h'
          | some l2 =>
            rw [hp] at h'
            injection h' with q
            have := par_len k (n - c) _ l2 hp
            rw [← q]
            simp
            omega
        · cases h'
theorem unL_len (n : Nat) (f : Nat → Int) : (unL n f).length ≤ n := by
  unfold unL
  split
  · cases hp : paR tpR n f n with
    | none => simp
    | some l => exact par_len n n f l hp
  · simp
theorem TldX.off {w w' : World} {base : Nat} {v : Value} {os : List PV} {N : List Nat} (h : TldX w base v os) (hO : Off N w w') (hN : ∀ b, b ∈ N → b < base) : TldX w' base v os :=
  ⟨row_off h.own hO (fun g hg q => by have := h.new g hg; have := hN g q; omega), h.new, fun x hx => (h.frs x hx).both ⟨(h.far x hx).1.txt hN, (h.far x hx).2.txt hN⟩ hO, fun x hx => ⟨(h.far x hx).1.off hO hN, (h.far x hx).2.off hO hN⟩⟩
theorem TldX.below {w w' : World} {base : Nat} {v : Value} {os : List PV} (h : TldX w base v os) (hB : Below w.heap.size w w') : TldX w' base v os := h.off (N := []) (Off.of hB) (fun _ q => by cases q)
theorem TldX.lst {w : World} {base n C : Nat} {a : Option Addr} {os : List PV} (h : TldX w base (.slice a n C) os) : Lst w a os := OwnP.lst h.own (fun x hx => (h.frs x hx).mono (fun b hb => by cases hb))
end Go.Proofs.YtblphlcnbnklmaaGreatDoor
namespace Go.Proofs.YtblphlcnbnklmaaGreatDoor
open Go.RowKit Go.Maps
attribute [-go_sem] Builtin.append_
theorem pack_len : ∀ (l c : List Pr), (packG c l).length ≤ l.length + 1
  | [], c => by simp [packG]
  | p :: r, c => by
    unfold packG
    split
    · have := pack_len r [p]; simp; omega
    · have := pack_len r (c ++ [p]); simp; omega
theorem packL_len (l : List Pr) : (packL l).length ≤ l.length + 1 := by
  unfold packL
  split
  · rw [List.length_map]; exact pack_len l []
  · simp
theorem byt_lies {W : World} {b n : Nat} {f : Nat → Int} (hf : ∀ j, j < n → 0 ≤ f j ∧ f j < 256) (h : IRow W b .u8 (n + 3) (lentF n f 3)) : Lies W b 0 n f :=
  ⟨fun j hj => by rw [Nat.zero_add, h.1 j (by omega), lentF_low n f 3 j hj], hf, h.2.2⟩
set_option maxRecDepth 100000 in
set_option maxHeartbeats 8000000 in
theorem tp_any (a : Option Addr) (n C : Nat) (ba : Option Addr) (bn bC : Nat) (fb : Nat → Int) (ps : List PV) (w : World) (hT : DTab w) (h0 : 0 < w.heap.size) (hn : ps.length = n) (hL : Lst w a ps) (hA : Arg w ba bn fb) (hC : bn ≤ bC) : Calls Tryz.prog 3 #[.slice a n C, .slice ba bn bC] w fun e w' => e = .returned (.bool true) ∧ Below w.heap.size w w' := by
  have HT := hidIt (And.intro hT h0)
  have HN := hidIt hn
  have HL := hidIt hL
  have HA := hidIt hA
  have HC := hidIt hC
  clear hT h0 hn hL hA hC
  go_enter Tryz.func3, Tryz.ntmps3
  go_wp2_with (go_at_call 9; refine (large8_any n C HN.out HL.out).mono ?_; rintro e w1 ⟨lb, rfl, hw, hs⟩; subst hw; have LB := hidIt hs; clear hs; refine Held.out ?_)
  cases lb with
  | true =>
    refine Held.mk ?_
    go_wp2_with fail
    exact bodyPost_ret (v := .bool true) (by simp [results, Tryz.results3, go_sem]) rfl ⟨rfl, Below.refl _ _⟩
  | false =>
    have SM := hidIt (LB.out rfl)
    by_cases hbig : 1100 < (bn : Int)
    · have c1 : (1100 < (bn : Int)) = True := eq_true hbig
      clear hbig
      refine Held.mk ?_
      go_wp2_with fail
      exact bodyPost_ret (v := .bool true) (by simp [results, Tryz.results3, go_sem]) rfl ⟨rfl, Below.refl _ _⟩
    · have c1 : (1100 < (bn : Int)) = False := eq_false hbig
      have HB := hidIt (show bn ≤ 1100 by omega)
      have N8 := hidIt (show n ≤ 80 by have := SM.out.1; have := HN.out; omega)
      obtain ⟨Ez, hEz⟩ : ∃ z, z = packE (ps.map PV.p) := ⟨_, rfl⟩
      obtain ⟨Uz, hUz⟩ : ∃ z, z = unE bn fb := ⟨_, rfl⟩
      have EZ := hidIt hEz
      have UZ := hidIt hUz
      clear hbig hEz hUz
      refine Held.mk ?_
      go_wp2_with (first
        | (go_at_call 10; refine (copyPairs_any n C HN.out HL.out (Nat.le_trans N8.out (by decide)) SM.out.2).mono ?_; rintro e w1 ⟨ia, iC, os, rfl, ol, om, hI, hb⟩; rw [ol, HN.out]; have OL := hidIt (ol.trans HN.out); have OM := hidIt om; have I1 := hidIt hI; have E1 := hidIt hb; clear ol om hI hb)
        | (go_at_call 11; refine (lent_any ba bn bC fb w1 (HA.out.below E1.out) (Nat.le_trans HB.out (by decide))).mono ?_; rintro e w2 ⟨g, rfl, hg, hR, hb⟩; have G2 := hidIt (And.intro hg hR); have E12 := hidIt hb; have E2 := hidIt (E1.out.trans (hb.mono E1.out.size)); clear hg hR hb)
        | (go_at_call 12; refine (xPack_any w2 ia os n iC OL.out (I1.out.below E12.out) (Nat.le_trans N8.out (by decide))).mono ?_; rintro e w3 hP; rw [OM.out] at hP; obtain ⟨hb, xa, m, xC, bs, rfl, hX, hXm, hXu, hXd⟩ := pc_form hP; rw [← EZ.out]; have X3 := hidIt hX; have XM := hidIt hXm; have XU := hidIt hXu; have XD := hidIt hXd; have E23 := hidIt hb; have E3 := hidIt (E2.out.trans (hb.mono E2.out.size)); clear hP hb hX hXm hXu hXd)
        | (go_at_call 13; refine (rpack_any w3 a ps n C HN.out (HL.out.below E3.out) (Nat.le_trans N8.out (by decide))).mono ?_; rintro e w4 hP; obtain ⟨hb, ya, m2, yC, cs, rfl, hY, hYm⟩ := rc_form hP; rw [← EZ.out]; obtain rfl : m = m2 := (by have q1 := hY.len; have q2 := X3.out.len; have q3 := congrArg List.length (hYm.trans XM.out.symm); rw [List.length_map, List.length_map] at q3; omega); have Y4 := hidIt hY; have YM := hidIt hYm; have E34 := hidIt hb; have E4 := hidIt (E3.out.trans (hb.mono E3.out.size)); clear hP hb hY hYm)
        | (go_at_call 14; refine (unpack_ok w4 g 0 bn (bn + 3) fb (byt_lies HA.out.bytes (G2.out.2.below (E23.out.trans (E34.out.mono E23.out.size)))) (by omega) (Nat.le_trans HB.out (by decide))).mono ?_; rintro e w5 hP; obtain ⟨hb, pa, pC, us, rfl, hU, hUm⟩ := up_form hP; rw [← UZ.out]; have U5 := hidIt hU; have UM := hidIt hUm; have E45 := hidIt hb; have E5 := hidIt (E4.out.trans (hb.mono E4.out.size)); clear hP hb hU hUm)
        | (go_at_call 15; refine (runpack_any w5 ba bn bC fb (HA.out.below E5.out) HC.out (Nat.le_trans HB.out (by decide))).mono ?_; rintro e w6 hP; obtain ⟨hb, qa, qC, vs, rfl, hV, hVm⟩ := ux_form hP; rw [← UZ.out]; have V6 := hidIt hV; have VM := hidIt hVm; have E56 := hidIt hb; have E6 := hidIt (E5.out.trans (hb.mono E5.out.size)); clear hP hb hV hVm; refine Held.out ?_))
      have S1 := hidIt E12.out.size
      have S2 := hidIt E23.out.size
      have S3 := hidIt E34.out.size
      have S4 := hidIt E45.out.size
      have E46 := hidIt (E45.out.trans (E56.out.mono E45.out.size))
      have E36 := hidIt (E34.out.trans (E46.out.mono E34.out.size))
      have E26 := hidIt (E23.out.trans (E36.out.mono E23.out.size))
      have E16 := hidIt (E12.out.trans (E26.out.mono E12.out.size))
      have U6 := hidIt (U5.out.below E56.out)
      have X6 := hidIt (X3.out.below E36.out)
      have Y6 := hidIt (Y4.out.below E46.out)
      have XU6 : Hid (∀ x ∈ bs, RowU w6 x.v) := hidIt fun x hx => (XU.out x hx).off (N := []) (Off.of E36.out) (fun _ _ q => by cases q)
      have UF : Hid (us.length ≤ 100000) := hidIt (by
        have q := congrArg List.length UM.out
        rw [List.length_map] at q
        have := unL_len bn fb
        have := HB.out
        omega)
      have XLo : Hid (∀ b, b ∈ bdN bs → w2.heap.size ≤ b ∧ b < w3.heap.size) := hidIt fun b hb => ⟨(X3.out.lo b hb).1, (X3.out.lo b hb).2.1⟩
      have MB : Hid (m ≤ 81) := hidIt (by
        have q := congrArg List.length XM.out
        rw [List.length_map] at q
        have := packL_len (ps.map PV.p)
        rw [List.length_map] at this
        have := X3.out.len
        have := HN.out
        have := N8.out
        omega)
      clear E23 E34 E45 E56 X3 XU Y4 U5
      obtain ⟨ul, hul⟩ : ∃ z, z = us.length := ⟨_, rfl⟩
      obtain ⟨vl, hvl⟩ : ∃ z, z = vs.length := ⟨_, rfl⟩
      rw [← hul, ← hvl]
      have UL := hidIt hul
      have VL := hidIt hvl
      clear hul hvl
      have K1 : Hid True := trivial
      refine Held.mk ?_
      go_wp2_with (first
        | (go_at_call 16; have _q := K1; clear K1 _q; refine (samePairs_any (ps := us) (qs := vs) ul vl pC qC UL.out.symm VL.out.symm (by have := U6.out.lst; exact this) V6.out (by have := UF.out; have := UL.out; omega)).mono ?_; rintro e w7 ⟨rfl, hb⟩; rw [decide_eq_true (UM.out.trans VM.out.symm)]; have E67 := hidIt hb; clear hb)
        | (go_at_call 16; refine (samePairs_any (ps := os) (qs := ps) n n iC C OL.out HN.out (I1.out.below (E16.out.trans (E67.out.mono E16.out.size))) (HL.out.below (E6.out.trans (E67.out.mono E6.out.size))) (Nat.le_trans N8.out (by decide))).mono ?_; rintro e w8 ⟨rfl, hb⟩; rw [decide_eq_true OM.out]; have E68 := hidIt (E67.out.trans (hb.mono E67.out.size)); clear hb)
        | (go_at_call 17; refine (kept_any g ba bn bC fb w8 (HA.out.below (E6.out.trans (E68.out.mono E6.out.size))) (Nat.le_trans HB.out (by decide)) (G2.out.2.below (E26.out.trans (E68.out.mono E26.out.size)))).mono ?_; rintro e w9 ⟨rfl, hb⟩; have E69 := hidIt (E68.out.trans (hb.mono E68.out.size)); clear hb; refine Held.out ?_))
      have X9 := hidIt (X6.out.below E69.out)
      have Y9 := hidIt (Y6.out.below E69.out)
      have U9 := hidIt (U6.out.below E69.out)
      have E29 := hidIt (E26.out.trans (E69.out.mono E26.out.size))
      have ST : Hid (LpI w9 w2.heap.size bs 0 w9) := hidIt ⟨Off.refl _ _, fun j x _ hx => ⟨by
        obtain ⟨b', C', q1, q2, q3, q4, _⟩ := X9.out.ok x (List.mem_of_getElem? hx)
        exact ⟨b', C', q1, q2, q3, q4, fun q => by cases q⟩, (XU6.out x (List.mem_of_getElem? hx)).off (N := []) (Off.of E69.out) (fun _ _ q => by cases q)⟩⟩
      have Z9 := hidIt (show w4.heap.size ≤ w9.heap.size from Nat.le_trans E46.out.size E69.out.size)
      clear X6 Y6 U6 XU6 E67 E68
      refine Held.mk ?_
      go_wp2_with fail
      go_loopw [15] (fun i wr => ∃ k : Nat, k ≤ m ∧ i = .int .i64 (k : Int) ∧ Hid (LpI w9 w2.heap.size bs k wr)) (fun i _ => m - (RowKit.intOf i).toNat)
      case atStart => exact ⟨0, Nat.zero_le _, rfl, ST⟩
      case round =>
        clear ST
        obtain ⟨k, hk, rfl, hI⟩ := hrel
        by_cases hlt : k < m
        · obtain ⟨x, hx⟩ : ∃ x, bs[k]? = some x := ⟨_, List.getElem?_eq_getElem (by have := X9.out.len; omega)⟩
          obtain ⟨y, hy⟩ : ∃ y, cs[k]? = some y := ⟨_, List.getElem?_eq_getElem (by have := Y9.out.len; omega)⟩
          have xy : x.L = y.L := by
            have q := congrArg (fun l => l[k]?) (XM.out.trans YM.out.symm)
            simp only [List.getElem?_map, hx, hy, Option.map_some] at q
            injection q
          obtain ⟨X, hXa, cX, lX, bX⟩ := X9.out.at_ hx
          obtain ⟨Y, hYa, cY, lY, bY⟩ := Y9.out.at_ hy
          have nX : X ∉ bdN bs := fun q => (X9.out.lo X q).2.2 (by rw [hXa]; simp [Value.ownBlock])
          have nY : Y ∉ bdN bs := fun q => by have := (XLo.out Y q).2; omega
          obtain ⟨⟨bx, Cx, hxv, hxC, lx, _, _⟩, ru⟩ := hI.out.ok k x (Nat.le_refl _) hx
          obtain ⟨by', Cy, hyv, _, ly, hby, _⟩ := Y9.out.ok y (List.mem_of_getElem? hy)
          have ny : by' ∉ bdN bs := fun q => by have := (XLo.out by' q).2; omega
          obtain ⟨o1, o2, F, oR⟩ := rowU_row hxv ru
          have gX : wr.cell? ⟨X, k, none⟩ = some (.slice (some ⟨bx, 0, none⟩) x.L.length Cx) := by rw [← hxv]; exact (hI.out.off.cell (p := ⟨X, k, none⟩) lX nX).trans cX
          have gY : wr.cell? ⟨Y, k, none⟩ = some (.slice (some ⟨by', 0, none⟩) x.L.length Cy) := by rw [xy, ← hyv]; exact (hI.out.off.cell (p := ⟨Y, k, none⟩) lY nY).trans cY
          have ax : Arg wr (some ⟨bx, 0, none⟩) x.L.length (nF x.L) := by
            by_cases z : x.L.length = 0
            · exact .inl ⟨z, .inr ⟨_, rfl⟩⟩
            · exact .inr ⟨by omega, bx, 0, rfl, lx⟩
          have ay : Arg wr (some ⟨by', 0, none⟩) x.L.length (nF x.L) := by
            by_cases z : x.L.length = 0
            · exact .inl ⟨z, .inr ⟨_, rfl⟩⟩
            · refine .inr ⟨by omega, by', 0, rfl, fun j hj => ?_, lx.2.1, Nat.lt_of_lt_of_le ly.2.2 hI.out.off.size⟩
              rw [xy] at hj ⊢
              exact (hI.out.off.cell (p := ⟨by', 0 + j, none⟩) ly.2.2 ny).trans (ly.1 j hj)
          have D1 : Below wr.heap.size wr wr.drew := (Below.refl _ _).drew
          have AX := hidIt (And.intro (ax.below D1) (ay.below D1))
          have GX := hidIt (And.intro gX gY)
          have OV := hidIt (And.intro o1 (And.intro o2 (oR.below D1)))
          have NXT := hidIt (fun w' (hB : But bx wr.drew w') => (hI.out.below D1).next XD.out hx hxv hB)
          have LT := hidIt hlt
          obtain ⟨i0, i1, i2, i3⟩ := k_ar k m hlt (by have := MB.out; omega)
          clear hx hy xy cX lX bX cY lY bY nX nY hxv hxC lx ru hyv ly hby ny o1 o2 oR gX gY ax ay D1 hlt hk hI
          generalize x.L.length = xl at *
          subst hXa hYa
          go_wp2_with fail
          refine wp_region_noPanic ?_
          refine wp_region_held_drew (S := fun w' => w'.cell? ⟨X, k, none⟩ = some (.slice (some ⟨bx, 0, none⟩) xl Cx) ∧ w'.cell? ⟨Y, k, none⟩ = some (.slice (some ⟨by', 0, none⟩) xl Cy)) (by kernel_rfl) ?_ (fun hHeld => ?_)
          · exact GX.out
          refine take_at (i := 0) (v := ?_) (some 86) rfl rfl (by kernel_rfl) (by kernel_rfl) (by kernel_rfl) (fun _ _ _ h => h) (Or.inl ⟨by rfl, ?_⟩) (by assumption) ?_
          rotate_left
          · (intro w hSw; (try dsimp only at hSw); go_simp; try with_reducible rfl)
          simp only [Act.put, List.setIfInBounds_toArray, List.set_cons_zero, List.set_cons_succ]
          refine take_at (i := 1) (v := ?_) (some 87) rfl rfl (by kernel_rfl) (by kernel_rfl) (by kernel_rfl) (fun _ _ _ h => h) (Or.inl ⟨by rfl, ?_⟩) (by assumption) ?_
          rotate_left
          · (intro w hSw; (try dsimp only at hSw); go_simp; try with_reducible rfl)
          simp only [Act.put, List.setIfInBounds_toArray, List.set_cons_zero, List.set_cons_succ]
          refine take_at (i := 2) (v := ?_) (some 88) rfl rfl (by kernel_rfl) (by kernel_rfl) (by kernel_rfl) (fun _ _ _ h => h) (Or.inl ⟨by rfl, ?_⟩) (by assumption) ?_
          rotate_left
          · (intro w hSw; (try dsimp only at hSw); go_simp; try with_reducible rfl)
          simp only [Act.put, List.setIfInBounds_toArray, List.set_cons_zero, List.set_cons_succ]
          refine take_at (i := 3) (v := ?_) (some 89) rfl rfl (by kernel_rfl) (by kernel_rfl) (by kernel_rfl) (fun _ _ _ h => h) (Or.inl ⟨by rfl, ?_⟩) (by assumption) ?_
          rotate_left
          · (intro w hSw; (try dsimp only at hSw); go_simp; try with_reducible rfl)
          simp only [Act.put, List.setIfInBounds_toArray, List.set_cons_zero, List.set_cons_succ]
          refine take_at (i := 4) (v := ?_) (some 90) rfl rfl (by kernel_rfl) (by kernel_rfl) (by kernel_rfl) (fun _ _ _ h => h) (Or.inl ⟨by rfl, ?_⟩) (by assumption) ?_
          rotate_left
          · (intro w hSw; (try dsimp only at hSw); go_simp; try with_reducible rfl)
          simp only [Act.put, List.setIfInBounds_toArray, List.set_cons_zero, List.set_cons_succ]
          refine take_at (i := 5) (v := ?_) (some 91) rfl rfl (by kernel_rfl) (by kernel_rfl) (by kernel_rfl) (fun _ _ _ h => h) (Or.inl ⟨by rfl, ?_⟩) (by assumption) ?_
          rotate_left
          · (intro w hSw; (try dsimp only at hSw); go_simp; try with_reducible rfl)
          simp only [Act.put, List.setIfInBounds_toArray, List.set_cons_zero, List.set_cons_succ]
          refine take_at (i := 6) (v := ?_) (some 92) rfl rfl (by kernel_rfl) (by kernel_rfl) (by kernel_rfl) (fun _ _ _ h => h) (Or.inl ⟨by rfl, ?_⟩) (by assumption) ?_
          rotate_left
          · (intro w hSw; (try dsimp only at hSw); go_simp; try with_reducible rfl)
          simp only [Act.put, List.setIfInBounds_toArray, List.set_cons_zero, List.set_cons_succ]
          refine take_at (i := 7) (v := ?_) (some 93) rfl rfl (by kernel_rfl) (by kernel_rfl) (by kernel_rfl) (fun _ _ _ h => h) (Or.inl ⟨by rfl, ?_⟩) (by assumption) ?_
          rotate_left
          · (intro w hSw; (try dsimp only at hSw); go_simp; try with_reducible rfl)
          simp only [Act.put, List.setIfInBounds_toArray, List.set_cons_zero, List.set_cons_succ]
          refine call_at (i := 8) (some 94) 18 _ _ rfl rfl rfl (by rfl) (by kernel_rfl) #[.slice (some ⟨bx, 0, none⟩) xl Cx, .slice (some ⟨by', 0, none⟩) xl Cy] rfl Tryz.func18 (by kernel_rfl) (by kernel_rfl) ?_
          refine (same_any (some ⟨bx, 0, none⟩) (some ⟨by', 0, none⟩) xl xl Cx Cy (nF x.L) (nF x.L) wr.drew AX.out.1 AX.out.2).mono ?_
          rintro e W9 ⟨rfl, hw⟩
          subst hw
          rw [decide_eq_true rfl]
          refine ⟨_, rfl, GX.out, fun hHeld => ?_⟩
          simp only [Act.put, List.setIfInBounds_toArray, List.set_cons_zero, List.set_cons_succ]
          refine take_at (i := 9) (v := ?_) (some 95) rfl rfl (by kernel_rfl) (by kernel_rfl) (by kernel_rfl) (fun _ _ _ h => h) (Or.inl ⟨by rfl, ?_⟩) (by assumption) ?_
          rotate_left
          · (intro w hSw; (try dsimp only at hSw); go_simp; try with_reducible rfl)
          simp only [Act.put, List.setIfInBounds_toArray, List.set_cons_zero, List.set_cons_succ]
          refine wpAnyH_done (by kernel_rfl) ?_ _
          refine NoPanic.normal ?_
          have gX := hHeld.1
          clear hHeld
          go_wp2_with (go_at_call 19; refine (over_big bx xl Cx F wr.drew OV.out.2.2 OV.out.1 OV.out.2.1).mono ?_; rintro e W10 ⟨rfl, _, hB, _⟩; have NX := hidIt (NXT.out W10 hB); clear hB gX)
          exact ⟨⟨k + 1, LT.out, rfl, NX⟩, meas_k m k _ rfl LT.out⟩
        · obtain rfl : k = m := by omega
          have i0 : ((k : Int) < (k : Int)) = False := eq_false (by omega)
          have BR := hidIt (hI.out.off.below (B := w2.heap.size) (fun b hb => (XLo.out b hb).1) E29.out.size)
          have UR := hidIt (U9.out.off hI.out.off (fun b hb => by have := (XLo.out b hb).2; have := S3.out; omega))
          have SR := hidIt (Nat.le_trans Z9.out hI.out.off.size)
          have E2r := hidIt (E29.out.trans BR.out)
          clear hlt hk hI BR
          go_wp2_with (go_at_call 20; refine (overPairs_any (base := w4.heap.size) (os := us) ul pC UL.out.symm (by have := UF.out; have := UL.out; omega) SR.out (by have q := UR.out; rw [← UL.out] at q; exact told_over q.own q.new q.frs q.far)).mono ?_; rintro e w10 ⟨rfl, hb⟩; have E210 := hidIt (E2r.out.trans (hb.mono (Nat.le_trans S2.out S3.out))); clear hb; refine Held.out ?_)
          have E110 := hidIt (E12.out.trans (E210.out.mono S1.out))
          have E010 := hidIt (E2.out.trans (E210.out.mono E2.out.size))
          refine Held.mk ?_
          go_wp2_with (first
            | (go_at_call 16; refine (samePairs_any (ps := os) (qs := ps) n n iC C OL.out HN.out (I1.out.below E110.out) (HL.out.below E010.out) (Nat.le_trans N8.out (by decide))).mono ?_; rintro e w11 ⟨rfl, hb⟩; rw [decide_eq_true OM.out]; have E011 := hidIt (E010.out.trans (hb.mono E010.out.size)); have E211 := hidIt (E210.out.trans (hb.mono E210.out.size)); clear hb)
            | (go_at_call 17; refine (kept_any g ba bn bC fb w11 (HA.out.below E011.out) (Nat.le_trans HB.out (by decide)) (G2.out.2.below E211.out)).mono ?_; rintro e w12 ⟨rfl, hb⟩; have E012 := hidIt (E011.out.trans (hb.mono E011.out.size)); clear hb)
            | (go_at_call 21; refine (xawake_ok w12 (HT.out.1.belowI E012.out HT.out.2) (Nat.lt_of_lt_of_le HT.out.2 E012.out.size)).mono ?_; rintro e w13 ⟨rfl, hb⟩; have E013 := hidIt (E012.out.trans (hb.mono E012.out.size)); clear hb))
          exact bodyPost_ret (v := .bool true) (by simp [results, Tryz.results3, go_sem]) rfl ⟨rfl, E013.out⟩
end Go.Proofs.YtblphlcnbnklmaaGreatDoor
namespace Go.Proofs.YtblphlcnbnklmaaGreatDoor
open Go.ChangeShapes Go.WideShapes Go.ChangeAt Go.WideMaps Go.WideElems Go.RowKit Go.Joins
theorem range_pcs {W : World} {b off : Nat} {ps : List PV} (h : ∀ i x, ps[i]? = some x → W.rangeAt b (off + i * 3) x.cs) : W.rangeAt b off (pcs ps) := fun j v hj => by
  have hl := (List.getElem?_eq_some_iff.1 hj).1
  rw [pcs_len] at hl
  have hi : j / 3 < ps.length := by omega
  have e := pcs_at ps (j / 3) (j % 3) _ (List.getElem?_eq_getElem hi) (by omega)
  rw [show j / 3 * 3 + j % 3 = j by omega, hj] at e
  have := h (j / 3) _ (List.getElem?_eq_getElem hi) (j % 3) v e.symm
  rwa [show off + j / 3 * 3 + j % 3 = off + j by omega] at this
section
variable {H : Type} {enc : TypeId × Value → H}
theorem struct3 {t : TypeId} {f0 f1 f2 : Field} {w : World} {fuel : Nat} {cs : List Value} {x : DataW H × List MemPlace} (ht : Tryz.prog.underlying t = some (.struct #[f0, f1, f2])) (h : DataW.trod enc Tryz.prog w 0 (fun _ => true) true fuel t cs = some x) :
    ∃ y0 y1 y2 n, DataW.trod enc Tryz.prog w 0 (fun _ => true) true n f0.type ((cs.drop f0.offset).take (Tryz.prog.cellsOf f0.type)) = some y0 ∧ DataW.trod enc Tryz.prog w 0 (fun _ => true) true n f1.type ((cs.drop f1.offset).take (Tryz.prog.cellsOf f1.type)) = some y1 ∧ DataW.trod enc Tryz.prog w 0 (fun _ => true) true n f2.type ((cs.drop f2.offset).take (Tryz.prog.cellsOf f2.type)) = some y2 := by
  obtain ⟨xs, n, _, rfl, hl, hlen, hf⟩ := DataW.trod_struct ht h
  match xs, hlen with
  | [y0, y1, y2], _ => exact ⟨y0, y1, y2, n, by simpa using hf 0 f0 rfl, by simpa using hf 1 f1 rfl, by simpa using hf 2 f2 rfl⟩
set_option maxRecDepth 100000 in
/-- Bytes within what came in. -/
theorem open_txt {W : World} {fuel : Nat} {cs : List Value} {y : DataW H × List MemPlace} (h : DataW.trod enc Tryz.prog W 0 (fun _ => true) true fuel 23 cs = some y) : ∃ v t, cs = [v] ∧ Txt W [] v t := by
  rcases open_ints Tryz.underlying23 Tryz.underlying5 (by kernel_rfl) h with ⟨hcs, _⟩ | ⟨x, l, c, zs, hcs, _, hl, hm, hz, _, hcell, hwz⟩
  · exact ⟨_, _, hcs, Txt.nil W [] 0⟩
  · have R : IsRow W (some x) l c zs := .inr ⟨_, rfl, hl, by simpa using hz, hcell, hwz⟩
    exact ⟨_, _, hcs, Txt.of R.arg⟩
set_option maxRecDepth 100000 in
/-- Pairs that came in, opened. -/
theorem open_pairs {W : World} {a : Option Addr} {len cap : Nat} {d : DataW H} {p : List MemPlace} (h : DataW.Trod enc Tryz.prog W 0 (fun _ => true) true 22 (.slice a len cap) d p) : ∃ ps : List PV, ps.length = len ∧ Lst W a ps := by
  obtain ⟨fuel, hf⟩ := h
  rcases DataW.trod_slice Tryz.underlying22 hf with ⟨hcs, _⟩ | ⟨x, l, c, elems, rest, m, _, hcs, _, _, hl, _, hlen, hel, _, _⟩
  · simp [Value.cells] at hcs
    obtain ⟨rfl, rfl, rfl⟩ := hcs
    exact ⟨[], rfl, fun x hx => (by cases hx), fun h => absurd rfl h⟩
  · simp [Value.cells] at hcs
    obtain ⟨rfl, rfl, rfl⟩ := hcs
    have hc : Tryz.prog.cellsOf 78 = 3 := by kernel_rfl
    have h3 : Tryz.prog.cellsOf 23 = 1 := by kernel_rfl
    have h4 : Tryz.prog.cellsOf 4 = 1 := by kernel_rfl
    have key : ∀ i, i < len → ∃ y : PV, PVOk W [] y ∧ ∀ j v, y.cs[j]? = some v → W.cell? ((x.add (i * 3)).add j) = some v := by
      intro i hi
      have e := hel i hi
      rw [hc, List.getElem?_eq_getElem (by omega)] at e
      obtain ⟨cs, hcs, htr⟩ := Option.bind_eq_some_iff.1 e
      obtain ⟨_, hlen2, hcell⟩ := World.cells?_some hcs
      obtain ⟨y0, y1, y2, k, t0, t1, t2⟩ := struct3 Tryz.underlying78 htr
      match cs, hlen2 with
      | [c0, c1, c2], _ =>
        obtain ⟨v0, s0, e0, T0⟩ := open_txt t0
        obtain ⟨v1, s1, e1, T1⟩ := open_txt t1
        obtain ⟨b2, e2, _⟩ := DataW.trod_bool Tryz.underlying4 t2
        simp [h3] at e0
        simp [h3] at e1
        simp [h4] at e2
        subst e0 e1 e2
        refine ⟨⟨c0, c1, ⟨s0, s1, b2⟩⟩, ⟨T0, T1⟩, fun j v hj => ?_⟩
        have hj3 : j < 3 := (List.getElem?_eq_some_iff.1 hj).1
        have := hcell j (by omega)
        rw [this]
        exact hj
    by_cases h0 : len = 0
    · exact ⟨[], h0.symm, fun x hx => (by cases hx), fun h => absurd rfl h⟩
    obtain ⟨b, off, spot⟩ := x
    have hspot : spot = none := by
      obtain ⟨y, _, h1⟩ := key 0 (by omega)
      have := h1 0 _ rfl
      simpa [Addr.add] using World.cell?_spot this
    subst hspot
    have key2 : ∀ i, i < len → ∃ y : PV, PVOk W [] y ∧ W.rangeAt b (off + i * 3) y.cs := fun i hi => by
      obtain ⟨y, h1, h2⟩ := key i hi
      refine ⟨y, h1, fun j v hj => ?_⟩
      have := h2 j v hj
      rwa [Addr.add_mid, Addr.add_mid] at this
    let f : Nat → PV := fun i => if hi : i < len then Classical.choose (key2 i hi) else ⟨undef, undef, ⟨.empty, .empty, false⟩⟩
    have hf' : ∀ i, i < len → PVOk W [] (f i) ∧ W.rangeAt b (off + i * 3) (f i).cs := fun i hi => by
      have := Classical.choose_spec (key2 i hi)
      simp only [f, dif_pos hi]
      exact this
    refine ⟨(List.range len).map f, by simp, fun y hy => ?_, fun _ => ⟨b, off, rfl, range_pcs (fun i y hi => ?_), ?_⟩⟩
    · obtain ⟨i, hi, rfl⟩ := List.mem_map.1 hy
      exact (hf' i (List.mem_range.1 hi)).1
    · have hl2 : i < len := by simpa using (List.getElem?_eq_some_iff.1 hi).1
      rw [List.getElem?_map, List.getElem?_range hl2] at hi
      injection hi with hi
      rw [← hi]
      exact (hf' i hl2).2
    · have := (hf' 0 (by omega)).2 0 _ rfl
      exact World.block_lt_of_cell? W _ this
end
end Go.Proofs.YtblphlcnbnklmaaGreatDoor
