/-
  Walks, not a claim by itself: the reference's bytes of a header. By the verifier.
-/
import Derived.Test.YtfpgkckcifjkcaaDoorNGrow
import Derived.Test.YtfpgkckcifjkcaaDoorNPut
import Derived.Test.YtfpgkckcifjkcaaDoorMLaw
namespace Go.Proofs.YtfpgkckcifjkcaaDoor
open Go.RowKit
def putRel2 (w : World) (g base m sz : Nat) (F : Nat → Int) (x : Int) (v i : Value) (wr : World) : Prop := ∃ k : Nat, k ≤ sz ∧ i = .int .i64 k ∧ GrowP w g base (m + k) (cat F m (byt x)) v wr ∧ base ≤ wr.heap.size
/-- What put answers. -/
def PutP (w : World) (g base N : Nat) (F : Nat → Int) (e : Ending) (w' : World) : Prop := ∃ v', e = .returned v' ∧ GrowP w g base N F v' w'
set_option maxRecDepth 100000 in
set_option maxHeartbeats 1000000 in
theorem mput_but (x : Int) (sz m base g cap : Nat) (F : Nat → Int) (w : World) (hsz : sz ≤ 8) (hm : m ≤ 300) (ho : Own w base (.slice (some ⟨g, 0, none⟩) m cap) m F) (hb : base ≤ w.heap.size) :
    Calls Tryd.prog 71 #[.slice (some ⟨g, 0, none⟩) m cap, .int .u64 x, .int .i64 sz] w (PutP w g base (m + sz) (cat F m (byt x))) := by
  have ST : Hid (putRel2 w g base m sz F x (.slice (some ⟨g, 0, none⟩) m cap) (.int .i64 0) w) := ⟨0, by omega, rfl, ⟨g, cap, rfl, .inl rfl, ho.congr (fun j hj => by unfold cat; rw [if_pos (by omega)]), But.refl _ _⟩, hb⟩
  have hsz' : (sz : Int) ≤ 8 := by omega
  clear ho
  go_enter Tryd.func71, Tryd.ntmps71
  go_wp2_with fail
  go_loopw [0, 7] (fun v i wr => putRel2 w g base m sz F x v i wr) (fun _ i _ => sz - (intOf i).toNat)
  case atStart => exact ST.out
  case round =>
    obtain ⟨k, hk, rfl, ⟨g1, cap1, rfl, hg1, ho, hB⟩, hbw⟩ := hrel
    clear ST
    by_cases hlt : k < sz
    · have i0 : (k : Int) < sz := by omega
      have i1 : (0 : Int) ≤ 8 * (k : Int) := by omega
      have i2 : 8 * (k : Int) < 64 := by omega
      have i3 : (8 * (k : Int)).toNat = 8 * k := by omega
      obtain ⟨v', W', hr, hG⟩ := app_but 27 (wr.alloc (.cells #[.int .u8 (x / 2 ^ (8 * k) % 256)] 5)) base (m + k) 1 1 g1 cap1 (some ⟨wr.heap.size, 0, none⟩) (cat F m (byt x)) (fun _ => x / 2 ^ (8 * k) % 256) (ho.below ((Below.refl _ _).alloc (Nat.le_refl _) _)) (by omega) (one_byte wr _ (by omega)) (by omega) (by simp; omega)
      have hz : base ≤ W'.heap.size := by obtain ⟨_, _, _, _, _, hb'⟩ := hG; have := hb'.size; simp at this; omega
      have R : Hid (putRel2 w g base m sz F x v' (.int .i64 ((k : Int) + 1)) W') := ⟨k + 1, by omega, by go_num, (GrowP.next hg1 (hB.alloc _) hG).congr (fun j hj => by
        by_cases e : j < m + k
        · unfold cat; rw [if_pos e]
        · rw [show j = m + k by omega]
          unfold cat
          rw [if_neg (by omega), if_neg (by omega), show m + k - m = k by omega, ← byt_eq]), hz⟩
      clear hG ho hB hz
      go_wp2_with (at_builtin; refine wpList_append_go rfl (.tmp 13) (.tmp 19) 27 27 rfl _ _ rfl rfl hr ?_)
      exact ⟨R.out, by simp [intOf]; omega⟩
    · obtain rfl : k = sz := by omega
      go_wp2_with fail
      exact bodyPost_ret (by simp [results, Tryd.results71, go_sem]) rfl ⟨_, rfl, g1, cap1, rfl, hg1, ho, hB⟩
/-- put of four bytes, of eight. -/
theorem put4 (x : Int) (m N base g cap : Nat) (F G : Nat → Int) (w : World) (hm : m ≤ 300) (ho : Own w base (.slice (some ⟨g, 0, none⟩) m cap) m F) (hb : base ≤ w.heap.size) (hN : N = m + 4) (hG : ∀ j, j < N → cat F m (byt x) j = G j) :
    Calls Tryd.prog 71 #[.slice (some ⟨g, 0, none⟩) m cap, .int .u64 x, .int .i64 4] w (PutP w g base N G) := by
  subst hN
  refine (mput_but x 4 m base g cap F w (by omega) hm ho hb).mono ?_
  rintro e w' ⟨v', rfl, h⟩
  exact ⟨v', rfl, h.congr hG⟩
theorem put8 (x : Int) (m N base g cap : Nat) (F G : Nat → Int) (w : World) (hm : m ≤ 300) (ho : Own w base (.slice (some ⟨g, 0, none⟩) m cap) m F) (hb : base ≤ w.heap.size) (hN : N = m + 8) (hG : ∀ j, j < N → cat F m (byt x) j = G j) :
    Calls Tryd.prog 71 #[.slice (some ⟨g, 0, none⟩) m cap, .int .u64 x, .int .i64 8] w (PutP w g base N G) := by
  subst hN
  refine (mput_but x 8 m base g cap F w (by omega) hm ho hb).mono ?_
  rintro e w' ⟨v', rfl, h⟩
  exact ⟨v', rfl, h.congr hG⟩
/-- The bytes behind a header's seal. -/
def restF (h s : Nat → Int) (j : Nat) : Int := innerF h s (16 + j)
theorem cat_num (h s : Nat → Int) (m k : Nat) (hk : k < 13) (hm : 16 + m = fat k) (j : Nat) (hj : j < m + 4) : cat (restF h s) m (byt (h (pos k))) j = restF h s j := by
  unfold cat
  by_cases e : j < m
  · rw [if_pos e]
  · rw [if_neg e]
    unfold restF
    rw [show 16 + j = fat k + (j - m) by omega, innerF_num _ _ k _ hk (by omega)]
theorem cat_time (h s : Nat → Int) (j : Nat) (hj : j < 84) : cat (restF h s) 76 (byt (h 13)) j = restF h s j := by
  unfold cat
  by_cases e : j < 76
  · rw [if_pos e]
  · rw [if_neg e]
    unfold restF
    rw [show 16 + j = 92 + (j - 76) by omega, innerF_time _ _ _ (by omega)]
theorem cat_client (h s : Nat → Int) (j : Nat) (hj : j < 68) : cat (restF h s) 52 (wide (h 9) (h 10)) j = restF h s j := by
  unfold cat
  by_cases e : j < 52
  · rw [if_pos e]
  · rw [if_neg e]
    unfold restF
    rw [show 16 + j = 68 + (j - 52) by omega, innerF_client _ _ _ (by omega)]
theorem cat_none (h s : Nat → Int) (j : Nat) : cat (restF h s) 92 (fun _ => 0) j = restF h s j := by
  unfold cat
  by_cases e : j < 92
  · rw [if_pos e]
  · rw [if_neg e]
    unfold restF
    rw [innerF_none _ _ _ (by omega)]
theorem restF_seal (h s : Nat → Int) (j : Nat) (hj : j < 16) : restF h s j = s j := by unfold restF; rw [innerF_seal _ _ _ hj]
theorem nine_row (w : World) (h : Nat → Int) (T : TypeId) : IRow (w.alloc (.cells #[.int .i64 (h 0), .int .i64 (h 1), .int .i64 (h 2), .int .i64 (h 3), .int .i64 (h 4), .int .i64 (h 5), .int .i64 (h 6), .int .i64 (h 7), .int .i64 (h 8)] T)) w.heap.size .i64 9 h := IRow.new w T .i64 9 h
/-- What holds at the head of the loop. -/
def behRelN (w : World) (q : Nat) (h s : Nat → Int) (v i : Value) (wr : World) : Prop := ∃ k g cap : Nat, k ≤ 9 ∧ i = .int .i64 k ∧ v = .slice (some ⟨g, 0, none⟩) (16 + 4 * k) cap ∧ Own wr (w.heap.size + 2) v (16 + 4 * k) (restF h s) ∧ w.heap.size + 2 ≤ g ∧ g ≠ q ∧ IRow wr q .i64 9 h ∧ Rec19 wr w.heap.size 0 (hcs h) ∧ Below w.heap.size w wr ∧ w.heap.size + 2 ≤ wr.heap.size
end Go.Proofs.YtfpgkckcifjkcaaDoor
