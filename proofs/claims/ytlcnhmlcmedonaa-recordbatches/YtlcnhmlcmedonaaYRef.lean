/-
  Walks, not a claim by itself: the document's batches: AccountsBytes, TransfersBytes, ReadAccounts, ReadTransfers. By the verifier.
-/
import Derived.Test.YtlcnhmlcmedonaaYBat
import Derived.Test.YtlcnhmlcmedonaaQTB
import Derived.Test.YtlcnhmlcmedonaaQImg
import Derived.Test.YtlcnhmlcmedonaaQARead
import Derived.Test.YtlcnhmlcmedonaaQTRead
import Derived.Test.YtlcnhmlcmedonaaBNo
namespace Go.Proofs.Ytlcnhmlcmedonaa
open Go.RowKit
theorem wpList_step_go {ops : Array Oper} {rest : List Oper} {op : Oper} {a : Act} {w : World} {Q : Exit → Act → World → Prop} (hgd : op.guard = none) {v : Value} {w' : World} (hx : (execOp a.eval op).run Try.prog w = .ok (.value v) w')
    (hK : wpList Try.prog ops Q rest (a.put op.dst v) w') : wpList Try.prog ops Q (op :: rest) a w := by
  refine wpList_plain hgd fun K hK' => ?_
  unfold Oper.wp
  rw [hx]
  exact hK' _ _ hK
theorem own_slice {w : World} {base : Nat} {v : Value} {n : Nat} {F : Nat → Int} (h : Own w base v n F) (hb : ∀ j, j < n → 0 ≤ F j ∧ F j < 256) : ∃ a cap, v = .slice a n cap ∧ Arg w a n F := by
  by_cases hn : n = 0
  · rcases h.2 with ⟨rfl, h0⟩ | ⟨g, cap, cur, rfl, _⟩
    · exact ⟨none, 0, by rw [h0], .inl ⟨h0, .inl rfl⟩⟩
    · exact ⟨_, cap, rfl, .inl ⟨hn, .inr ⟨_, rfl⟩⟩⟩
  · obtain ⟨g, cap, rfl, _, _, hl⟩ := h.form (by omega) hb
    exact ⟨_, cap, rfl, Arg.of hl⟩
/-- Records' cells, behind one another. -/
def recsL (acc : Nat → Fld) (n : Nat) : List Value := (List.range n).flatMap fun i => (acc i).cells
theorem recsL_succ (acc : Nat → Fld) (n : Nat) : recsL acc (n + 1) = recsL acc n ++ (acc n).cells := by
  unfold recsL
  rw [List.range_succ, List.flatMap_append]
  simp
theorem recsL_len (acc : Nat → Fld) : ∀ n, (recsL acc n).length = n * 19
  | 0 => rfl
  | n + 1 => by rw [recsL_succ, List.length_append, recsL_len acc n, Fld.cells_len]; omega
theorem recsL_at (acc : Nat → Fld) : ∀ n i j, i < n → j < 19 → (recsL acc n)[i * 19 + j]? = (acc i).cells[j]?
  | 0, i, j, hi, _ => absurd hi (by omega)
  | n + 1, i, j, hi, hj => by
    rw [recsL_succ]
    by_cases e : i < n
    · rw [List.getElem?_append_left (by rw [recsL_len]; omega)]
      exact recsL_at acc n i j e hj
    · obtain rfl : i = n := by omega
      rw [List.getElem?_append_right (by rw [recsL_len]; omega), recsL_len]
      congr 1
      omega
theorem recsL_one (acc : Nat → Fld) (n : Nat) : ∀ v ∈ recsL acc n, v.oneCell' = true := by
  intro v hv
  unfold recsL at hv
  rw [List.mem_flatMap] at hv
  obtain ⟨i, _, hv⟩ := hv
  exact (acc i).cells_one v hv
theorem rarg_of_own {T : TypeId} {W : World} {base n : Nat} {v : Value} {acc : Nat → Fld} (h : W.ownsRow base T 19 v n (recsL acc n)) (hw : ∀ i, i < n → (acc i).wf) : ∃ a cap, v = .slice a n cap ∧ RArg W a n acc := by
  rcases h.2 with ⟨rfl, h0⟩ | ⟨g, cap, cur, rfl, hbg, hg, hnc, _, hsz, htake⟩
  · subst h0
    exact ⟨none, 0, rfl, .inl rfl⟩
  · refine ⟨_, cap, rfl, .inr ⟨g, 0, rfl, fun i hi j u hj => ?_, hw, (Array.getElem?_eq_some_iff.1 hg).1⟩⟩
    have hj' : j < 19 := by
      rcases Nat.lt_or_ge j 19 with q | q
      · exact q
      · rw [List.getElem?_eq_none (by rw [Fld.cells_len]; omega)] at hj; cases hj
    have e := recsL_at acc n i j hi hj'
    rw [← htake, List.getElem?_take, if_pos (by have : (i + 1) * 19 ≤ n * 19 := Nat.mul_le_mul_right 19 hi; omega)] at e
    have hc : W.cell? ⟨g, 0 + i * 19 + j, none⟩ = cur[i * 19 + j]? := by
      rw [Nat.zero_add]
      simp [World.cell?, hg]
    rw [hc, ← Array.getElem?_toList, e]
    exact hj
/-- What holds at the head of the loop. -/
def yabRel (w : World) (n : Nat) (acc : Nat → Fld) (v i : Value) (wr : World) : Prop := ∃ k : Nat, k ≤ n ∧ i = .int .i64 k ∧ Own wr w.heap.size v (k * 128) (batF acc) ∧ Below w.heap.size w wr
theorem yab_step (w wr u w1 : World) (n k : Nat) (acc : Nat → Fld) (v' : Value) (hk : k < n) (hu : Below wr.heap.size wr u) (bel : Below w.heap.size w wr)
    (ho : Own w1 w.heap.size v' (k * 128 + 128) (cat (batF acc) (k * 128) (acc k).img)) (hB : Below w.heap.size u w1) : yabRel w n acc v' (.int .i64 ((k : Int) + 1)) w1 := by
  have ho' := ho.congr (G := batF acc) (fun j hj => by
    unfold cat
    by_cases q : j < k * 128
    · rw [if_pos q]
    · rw [if_neg q]
      unfold batF
      rw [show j / 128 = k by omega, show j % 128 = j - k * 128 by omega])
  rw [show k * 128 + 128 = (k + 1) * 128 by omega] at ho'
  exact ⟨k + 1, by omega, by go_num, ho', bel.trans ((hu.mono bel.size).trans hB)⟩
/-- What the document's AccountsBytes and TransfersBytes answer. -/
def QbPost (w : World) (n : Nat) (acc : Nat → Fld) (e : Ending) (w' : World) : Prop := ∃ a cap, e = .returned (.tuple #[.slice a (bsize n) cap, .int .i64 (bcode n)]) ∧ Arg w' a (bsize n) (batF acc) ∧ Below w.heap.size w w'
/-- The error of n bytes, and how many records they are. -/
def rcode (n : Nat) : Int := if n % 128 ≠ 0 then 4 else if 1024 < n then 3 else 0
def rcnt (n : Nat) : Nat := if n % 128 ≠ 0 then 0 else if 1024 < n then 0 else n / 128
/-- What ReadAccounts and ReadTransfers answer, the document's and the program's. -/
def RcPost (w : World) (n : Nat) (f : Nat → Int) (e : Ending) (w' : World) : Prop := ∃ a cap, e = .returned (.tuple #[.slice a (rcnt n) cap, .int .i64 (rcode n)]) ∧ RArg w' a (rcnt n) (fun i => recOf fun t => f (i * 128 + t)) ∧ Below w.heap.size w w'
theorem arecOf_wf (f : Nat → Int) (hf : ∀ j, j < 128 → 0 ≤ f j ∧ f j < 256) : (recOf f).wf := by
  have hi : ∀ o, o + 16 ≤ 128 → Word (hi16 fun j => f (o + j)) := fun o ho => le8_word _ (fun j hj => hf _ (by omega))
  have lo : ∀ o, o + 16 ≤ 128 → Word (lo16 fun j => f (o + j)) := fun o ho => le8_word _ (fun j hj => hf _ (by omega))
  have pb : ∀ o n, o + n ≤ 128 → 0 ≤ ps (fun j => f (o + j)) n ∧ ps (fun j => f (o + j)) n < 256 ^ n := fun o n ho => ps_bound _ n (fun j hj => hf _ (by omega))
  exact ⟨hi 0 (by omega), lo 0 (by omega), hi 16 (by omega), lo 16 (by omega), hi 32 (by omega), lo 32 (by omega), hi 48 (by omega), lo 48 (by omega), hi 64 (by omega), lo 64 (by omega), hi 80 (by omega), lo 80 (by omega), pb 96 8 (by omega), pb 104 4 (by omega), pb 108 4 (by omega), pb 112 4 (by omega), pb 116 2 (by omega), pb 118 2 (by omega), pb 120 8 (by omega)⟩
theorem wrong_any (a : Option Addr) (n C : Nat) (w : World) (hn : n ≤ 1000000) : Calls Try.prog 40 #[.slice a n C] w fun e w' => e = .returned (.int .i64 (rcode n)) ∧ w' = w := by
  unfold rcode
  by_cases h1 : n % 128 ≠ 0
  · have e1 : ¬ (n : Int).tmod 128 = 0 := by rw [Int.tmod_eq_emod_of_nonneg (by omega)]; omega
    rw [if_pos h1]
    go_enter Try.func40, Try.ntmps40
    go_wp2_with fail
    go_ret
    exact ⟨rfl, rfl⟩
  · have e1 : (n : Int).tmod 128 = 0 := by rw [Int.tmod_eq_emod_of_nonneg (by omega)]; omega
    rw [if_neg h1]
    by_cases h2 : 1024 < n
    · have e2 : (1024 : Int) < n := by omega
      rw [if_pos h2]
      go_enter Try.func40, Try.ntmps40
      go_wp2_with fail
      go_ret
      exact ⟨rfl, rfl⟩
    · have e2 : ¬ (1024 : Int) < n := by omega
      rw [if_neg h2]
      go_enter Try.func40, Try.ntmps40
      go_wp2_with fail
      go_ret
      exact ⟨rfl, rfl⟩
set_option maxRecDepth 100000 in
set_option maxHeartbeats 1000000 in
theorem qAccounts_bytes (a : Option Addr) (n C : Nat) (acc : Nat → Fld) (w : World) (h : RArg w a n acc) :
    Calls Try.prog 15 #[.slice a n C] w (QbPost w n acc) := by
  unfold QbPost
  by_cases hn : n ≤ 8
  · have e1 : bcode n = 0 := if_pos hn
    have e2 : bsize n = n * 128 := if_pos hn
    rw [e1, e2]
    have HR : Hid (RArg w a n acc) := h
    have ST : Hid (yabRel w n acc (.slice none 0 0) (.int .i64 0) w) := ⟨0, by omega, rfl, by rw [Nat.zero_mul]; exact Own.nil _ _ _, Below.refl _ _⟩
    have m3 : ¬ (8 : Int) < n := by omega
    clear h e1 e2
    go_enter Try.func15, Try.ntmps15
    go_wp2_with fail
    go_loopw [4, 5] (fun v i wr => yabRel w n acc v i wr) (fun _ i _ => n - (intOf i).toNat)
    case atStart => exact ST.out
    case round =>
      obtain ⟨k, hk, rfl, hown, bel⟩ := hrel
      clear ST
      have BE : Hid (Below w.heap.size w wr) := bel
      have OW : Hid (Own wr w.heap.size _ (k * 128) (batF acc)) := hown
      clear hown
      by_cases hlt : k < n
      · have i1 : (k : Int) < n := by omega
        rcases HR.out with h0 | ⟨b, off, rfl, R⟩
        · omega
        have hb := R.2.2
        have rng : wr.rangeAt b (off + k * 19) (acc k).cells := fun j v hj => (bel.cell (p := ⟨b, off + k * 19 + j, none⟩) hb).trans (R.1 k hlt j v hj)
        clear bel R
        go_wp2_with (refine wpList_load_mid (P := Try.prog) rfl 28 (.tmp 18) rfl b (off + k * 19) rfl (acc k).cells _ rng Try.underlying28 rfl (by kernel_rfl) ?_)
        refine (qabytes_any (acc k) _ (rarg_wf HR.out k hlt)).mono ?_
        rintro e w3 ⟨v3, rfl, hO3, K3⟩
        obtain ⟨g3, cap3, rfl, _, _, hL3⟩ := (hO3.congr (qimg (acc k))).form (by omega) (fun j _ => ximg_byte _ j)
        obtain ⟨v4, w4, hr4, hO4, hB4⟩ := app_arg 31 w3 w.heap.size (k * 128) 128 cap3 _ (some ⟨g3, 0, none⟩) (batF acc) (acc k).img (OW.out.below K3) (Arg.of hL3) (by omega) (Nat.le_trans BE.out.size K3.size)
        have RR : Hid (yabRel w n acc v4 (.int .i64 ((k : Int) + 1)) w4) := yab_step w wr w3 w4 n k acc v4 hlt K3 BE.out hO4 hB4
        clear K3 hO3 hL3 rng hO4 hB4
        go_wp2_with (at_builtin; refine wpList_append_go rfl _ _ 31 31 rfl _ _ rfl rfl hr4 ?_)
        go_roundw
        case rel => exact RR.out
        case measure => simp [intOf]; omega
      · obtain rfl : k = n := by omega
        obtain ⟨a', cap, rfl, hA⟩ := own_slice OW.out (fun j _ => ximg_byte _ _)
        go_wp2_with fail
        exact bodyPost_ret (v := .tuple #[.slice a' (k * 128) cap, .int .i64 0]) (by simp [results, Try.results15]) rfl ⟨a', cap, rfl, hA, BE.out⟩
  · have e1 : bcode n = 3 := if_neg hn
    have e2 : bsize n = 0 := if_neg hn
    rw [e1, e2]
    have m3 : (8 : Int) < n := by omega
    clear e1 e2
    go_enter Try.func15, Try.ntmps15
    go_wp2_with fail
    exact bodyPost_ret (v := .tuple #[.slice none 0 0, .int .i64 3]) (by simp [results, Try.results15]) rfl ⟨none, 0, rfl, .inl ⟨rfl, .inl rfl⟩, Below.refl _ _⟩
set_option maxRecDepth 100000 in
set_option maxHeartbeats 1000000 in
theorem qTransfers_bytes (a : Option Addr) (n C : Nat) (acc : Nat → Fld) (w : World) (h : RArg w a n acc) :
    Calls Try.prog 17 #[.slice a n C] w (QbPost w n acc) := by
  unfold QbPost
  by_cases hn : n ≤ 8
  · have e1 : bcode n = 0 := if_pos hn
    have e2 : bsize n = n * 128 := if_pos hn
    rw [e1, e2]
    have HR : Hid (RArg w a n acc) := h
    have ST : Hid (yabRel w n acc (.slice none 0 0) (.int .i64 0) w) := ⟨0, by omega, rfl, by rw [Nat.zero_mul]; exact Own.nil _ _ _, Below.refl _ _⟩
    have m3 : ¬ (8 : Int) < n := by omega
    clear h e1 e2
    go_enter Try.func17, Try.ntmps17
    go_wp2_with fail
    go_loopw [4, 5] (fun v i wr => yabRel w n acc v i wr) (fun _ i _ => n - (intOf i).toNat)
    case atStart => exact ST.out
    case round =>
      obtain ⟨k, hk, rfl, hown, bel⟩ := hrel
      clear ST
      have BE : Hid (Below w.heap.size w wr) := bel
      have OW : Hid (Own wr w.heap.size _ (k * 128) (batF acc)) := hown
      clear hown
      by_cases hlt : k < n
      · have i1 : (k : Int) < n := by omega
        rcases HR.out with h0 | ⟨b, off, rfl, R⟩
        · omega
        have hb := R.2.2
        have rng : wr.rangeAt b (off + k * 19) (acc k).cells := fun j v hj => (bel.cell (p := ⟨b, off + k * 19 + j, none⟩) hb).trans (R.1 k hlt j v hj)
        clear bel R
        go_wp2_with (refine wpList_load_mid (P := Try.prog) rfl 30 (.tmp 18) rfl b (off + k * 19) rfl (acc k).cells _ rng Try.underlying30 rfl (by kernel_rfl) ?_)
        refine (qtbytes_any (acc k) _ (rarg_wf HR.out k hlt)).mono ?_
        rintro e w3 ⟨v3, rfl, hO3, K3⟩
        obtain ⟨g3, cap3, rfl, _, _, hL3⟩ := (hO3.congr (qimg (acc k))).form (by omega) (fun j _ => ximg_byte _ j)
        obtain ⟨v4, w4, hr4, hO4, hB4⟩ := app_arg 31 w3 w.heap.size (k * 128) 128 cap3 _ (some ⟨g3, 0, none⟩) (batF acc) (acc k).img (OW.out.below K3) (Arg.of hL3) (by omega) (Nat.le_trans BE.out.size K3.size)
        have RR : Hid (yabRel w n acc v4 (.int .i64 ((k : Int) + 1)) w4) := yab_step w wr w3 w4 n k acc v4 hlt K3 BE.out hO4 hB4
        clear K3 hO3 hL3 rng hO4 hB4
        go_wp2_with (at_builtin; refine wpList_append_go rfl _ _ 31 31 rfl _ _ rfl rfl hr4 ?_)
        go_roundw
        case rel => exact RR.out
        case measure => simp [intOf]; omega
      · obtain rfl : k = n := by omega
        obtain ⟨a', cap, rfl, hA⟩ := own_slice OW.out (fun j _ => ximg_byte _ _)
        go_wp2_with fail
        exact bodyPost_ret (v := .tuple #[.slice a' (k * 128) cap, .int .i64 0]) (by simp [results, Try.results17]) rfl ⟨a', cap, rfl, hA, BE.out⟩
  · have e1 : bcode n = 3 := if_neg hn
    have e2 : bsize n = 0 := if_neg hn
    rw [e1, e2]
    have m3 : (8 : Int) < n := by omega
    clear e1 e2
    go_enter Try.func17, Try.ntmps17
    go_wp2_with fail
    exact bodyPost_ret (v := .tuple #[.slice none 0 0, .int .i64 3]) (by simp [results, Try.results17]) rfl ⟨none, 0, rfl, .inl ⟨rfl, .inl rfl⟩, Below.refl _ _⟩
end Go.Proofs.Ytlcnhmlcmedonaa
