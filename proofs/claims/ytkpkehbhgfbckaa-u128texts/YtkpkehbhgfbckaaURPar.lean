/-
  Walks, not a claim by itself: the reference's Parse. By the verifier.
-/
import Derived.Test.YtkpkehbhgfbckaaURTxt
import Derived.Test.YtkpkehbhgfbckaaRSum
import Derived.Test.YtkpkehbhgfbckaaParse
namespace Go.Proofs.Ytkpkehbhgfbckaa
open Go.RowKit
theorem rof_one (n : Int) (w : World) : Calls Try.prog 16 #[.int .u64 n] w fun e w' => e = .returned (U 0 n) ∧ Below w.heap.size w w' := by
  go_enter Try.func16, Try.ntmps16
  go_wp2
  exact bodyPost_ret (v := U 0 n) (by simp [results, Try.results16, go_sem]) rfl ⟨rfl, (Below.refl _ _).alloc (Nat.le_refl _) _⟩
/-- What Parse hands back of a number. -/
def parV (t : Int) : Value := if t < 340282366920938463463374607431768211456 then .tuple #[U (hiW t) (loW t), .int .i64 0] else .tuple #[U 0 0, .int .i64 15]
def RPost (s : ByteArray) (e : Ending) : Prop := (NumP s ∧ e = .returned (parV (val s.data.toList))) ∨ (¬ NumP s ∧ e = .returned (.tuple #[U 0 0, .int .i64 4]))
/-- The number so far, or over. -/
def SoFar (b : Bool) (x y t : Int) : Prop := Word x ∧ Word y ∧ ((b = false ∧ V x y = t) ∨ (b = true ∧ 340282366920938463463374607431768211456 ≤ t))
/-- What holds at the head of Parse's loop. -/
def RPar (w : World) (s : ByteArray) (o i : Value) (wr : World) : Prop := ∃ (k : Nat) (x y : Int) (b : Bool), k ≤ s.size ∧ i = .int .i64 k ∧ o = .bool b ∧ (∀ (j : Nat) (h : j < s.size), j < k → (48 : Int) ≤ ((s[j]'h).toNat : Int) ∧ ((s[j]'h).toNat : Int) ≤ 57) ∧
  SoFar b x y (val (s.data.toList.take k)) ∧ AtW wr (w.heap.size + 1) x y ∧ AtW wr w.heap.size 0 0 ∧ Below w.heap.size w wr
/-- p q is j + 1 times t, or over. -/
def InV (b : Bool) (x y t p q : Int) (j : Nat) : Prop := (b = false ∧ V x y = t ∧ V p q = (j + 1) * t) ∨ (b = true ∧ 340282366920938463463374607431768211456 ≤ 10 * t)
/-- .. and of the loop in it: T holds j + 1 times the number. -/
def RIn (w : World) (T : Nat) (x y t : Int) (o i : Value) (wr : World) : Prop := ∃ (j : Nat) (p q : Int) (b : Bool), j ≤ 9 ∧ i = .int .i64 j ∧ o = .bool b ∧ Word p ∧ Word q ∧ InV b x y t p q j ∧
  AtW wr T p q ∧ AtW wr (w.heap.size + 1) x y ∧ AtW wr w.heap.size 0 0 ∧ Below w.heap.size w wr
theorem in_step {w w5 : World} {T j : Nat} {x y t p q r s : Int} {b b' : Bool} (o : Obj) (hj : j < 9) (t0 : 0 ≤ t) (hI : InV b x y t p q j) (hr : Word r) (hs : Word s)
    (hV : (b' = true ∧ b = true) ∨ (b' = b ∧ V r s = V p q + V x y) ∨ (b' = true ∧ 340282366920938463463374607431768211456 ≤ V p q + V x y))
    (hT : AtW w5 T p q) (hA : AtW w5 (w.heap.size + 1) x y) (hR : AtW w5 w.heap.size 0 0) (hB : Below w.heap.size w w5) (hn1 : T ≠ w.heap.size + 1) (hn2 : T ≠ w.heap.size) (hle : w.heap.size ≤ T) :
    RIn w T x y t (.bool b') (.int .i64 ((j : Int) + 1)) (((w5.setCell ⟨T, 0, none⟩ (.int .u64 r)).setCell ⟨T, 1, none⟩ (.int .u64 s)).alloc o) := by
  refine ⟨j + 1, r, s, b', by omega, by go_num, rfl, hr, hs, ?_, (hT.set r s).alloc _, ((hA.other _ 0 _ hn1).other _ 1 _ hn1).alloc _, ((hR.other _ 0 _ hn2).other _ 1 _ hn2).alloc _, (sum_below2 hB hle).alloc (by have := hB.size; simp [World.setCell]; omega) _⟩
  unfold InV at hI ⊢
  have e1 : ((j : Int) + 1) * t + t = ((j : Int) + 1 + 1) * t := by rw [Int.add_mul ((j : Int) + 1) 1 t, Int.one_mul]
  have e2 : ((j : Int) + 1 + 1) * t ≤ 10 * t := Int.mul_le_mul_of_nonneg_right (by omega) t0
  have e3 : (((j + 1 : Nat) : Int) + 1) * t = ((j : Int) + 1 + 1) * t := by rw [Int.natCast_add]; rfl
  rw [e3]
  generalize ((j : Int) + 1) * t = z1 at *
  generalize ((j : Int) + 1 + 1) * t = z2 at *
  rcases hI with ⟨rfl, hx, hp⟩ | ⟨rfl, ht⟩
  · rcases hV with ⟨_, h⟩ | ⟨rfl, h⟩ | ⟨rfl, h⟩
    · cases h
    · exact .inl ⟨rfl, hx, by omega⟩
    · exact .inr ⟨rfl, by omega⟩
  · rcases hV with ⟨rfl, _⟩ | ⟨rfl, _⟩ | ⟨rfl, _⟩ <;> exact .inr ⟨rfl, ht⟩
theorem in_start {w wr : World} {x y t : Int} {b : Bool} (hS : SoFar b x y t) (hA : AtW wr (w.heap.size + 1) x y) (hR : AtW wr w.heap.size 0 0) (hB : Below w.heap.size w wr) :
    RIn w wr.heap.size x y t (.bool b) (.int .i64 0) (wr.alloc (.cells #[.int .u64 x, .int .u64 y] 24)) := by
  refine ⟨0, x, y, b, by omega, rfl, rfl, hS.1, hS.2.1, ?_, AtW.new wr x y _, hA.alloc _, hR.alloc _, hB.alloc hB.size _⟩
  rcases hS.2.2 with ⟨rfl, h⟩ | ⟨rfl, h⟩
  · exact .inl ⟨rfl, h, by rw [h]; simp⟩
  · exact .inr ⟨rfl, by omega⟩
theorem out_step {w w5 : World} {s : ByteArray} {k : Nat} {x y p q r u c : Int} {b b' : Bool} (hk : k < s.size) (hc : c = ((s[k]'hk).toNat : Int)) (c0 : 48 ≤ c) (c1 : c ≤ 57)
    (hD : ∀ (j : Nat) (h : j < s.size), j < k → (48 : Int) ≤ ((s[j]'h).toNat : Int) ∧ ((s[j]'h).toNat : Int) ≤ 57)
    (hI : InV b x y ((val (s.data.toList.take k) : Nat) : Int) p q 9) (hr : Word r) (hs : Word u)
    (hV : (b' = true ∧ b = true) ∨ (b' = b ∧ V r u = V p q + (c - 48)) ∨ (b' = true ∧ 340282366920938463463374607431768211456 ≤ V p q + (c - 48)))
    (hA : AtW w5 (w.heap.size + 1) x y) (hR : AtW w5 w.heap.size 0 0) (hB : Below w.heap.size w w5) :
    RPar w s (.bool b') (.int .i64 ((k : Int) + 1)) ((w5.setCell ⟨w.heap.size + 1, 0, none⟩ (.int .u64 r)).setCell ⟨w.heap.size + 1, 1, none⟩ (.int .u64 u)) := by
  have hv := val_take s k hk
  have e : ((val (s.data.toList.take (k + 1)) : Nat) : Int) = 10 * ((val (s.data.toList.take k) : Nat) : Int) + (c - 48) := by rw [hv, hc]; omega
  refine ⟨k + 1, r, u, b', by omega, by go_num, rfl, ?_, ⟨hr, hs, ?_⟩, hA.set r u, (hR.other _ 0 _ (by omega)).other _ 1 _ (by omega), sum_below2 hB (by omega)⟩
  · intro j h hj
    by_cases e : j = k
    · subst e; rw [← hc]; exact ⟨c0, c1⟩
    · exact hD j h (by omega)
  · rw [e]
    generalize ((val (s.data.toList.take k) : Nat) : Int) = t at *
    unfold InV at hI
    rw [show ((9 : Nat) : Int) + 1 = 10 from rfl] at hI
    rcases hI with ⟨rfl, hx, hp⟩ | ⟨rfl, ht⟩
    · rcases hV with ⟨_, h⟩ | ⟨rfl, h⟩ | ⟨rfl, h⟩
      · cases h
      · exact .inl ⟨rfl, by omega⟩
      · exact .inr ⟨rfl, by omega⟩
    · rcases hV with ⟨rfl, _⟩ | ⟨rfl, _⟩ | ⟨rfl, _⟩ <;> exact .inr ⟨rfl, by omega⟩
theorem keepB {w0 W W' : World} {p : Nat} {ah al : Value} (hp : p < w0.heap.size) (h : W.cell? ⟨p, 0, none⟩ = some ah ∧ W.cell? ⟨p, 1, none⟩ = some al ∧ Hid (Below w0.heap.size w0 W)) (hB : Below w0.heap.size W W') :
    W'.cell? ⟨p, 0, none⟩ = some ah ∧ W'.cell? ⟨p, 1, none⟩ = some al ∧ Hid (Below w0.heap.size w0 W') :=
  ⟨(hB.cell (p := ⟨p, 0, none⟩) hp).trans h.1, (hB.cell (p := ⟨p, 1, none⟩) hp).trans h.2.1, h.2.2.out.trans hB⟩
theorem sizeB {w0 W : World} {a b : Prop} (h : a ∧ b ∧ Hid (Below w0.heap.size w0 W)) : w0.heap.size ≤ W.heap.size := h.2.2.out.size
theorem SoFar.last {b : Bool} {x y t : Int} (h : SoFar b x y t) : (if b then Value.tuple #[U 0 0, .int .i64 15] else .tuple #[U x y, .int .i64 0]) = parV t := by
  obtain ⟨hx, hy, ⟨rfl, hv⟩ | ⟨rfl, hv⟩⟩ := h
  · have l : t < 340282366920938463463374607431768211456 := by obtain ⟨_, _⟩ := hx; obtain ⟨_, _⟩ := hy; unfold V at hv; omega
    obtain ⟨rfl, rfl⟩ := words_uniq hx hy hv
    show Value.tuple #[U (hiW t) (loW t), .int .i64 0] = parV t
    unfold parV; rw [if_pos l]
  · show Value.tuple #[U 0 0, .int .i64 15] = parV t
    unfold parV; rw [if_neg (by omega)]
theorem rpar_start (w : World) (s : ByteArray) : RPar w s (.bool false) (.int .i64 0) ((w.alloc (.cells #[.int .u64 0, .int .u64 0] 24)).alloc (.cells #[.int .u64 0, .int .u64 0] 24)) := by
  refine ⟨0, 0, 0, false, Nat.zero_le _, rfl, rfl, fun j h hj => by omega, ⟨word_zero, word_zero, .inl ⟨rfl, rfl⟩⟩, ?_, (AtW.new w 0 0 _).alloc _, ((Below.refl _ _).alloc (Nat.le_refl _) _).alloc (by simp) _⟩
  have := AtW.new (w.alloc (.cells #[.int .u64 0, .int .u64 0] 24)) 0 0 24
  rw [World.size_alloc] at this
  exact this
set_option maxRecDepth 100000 in
set_option maxHeartbeats 4000000 in
theorem rparse_one (s : ByteArray) (w : World) (hs : s.size ≤ 39) (h1 : s.size = 1) :
    Calls Try.prog 33 #[.string s] w fun e w' => RPost s e ∧ Below w.heap.size w w' := by
  have e1 : ¬ (39 : Int) < s.size := by omega
  have e2 : ¬ s.toList = [] := empty_not s (by omega)
  have e3 : ¬ (1 : Int) < s.size := by omega
  have e4 : s.toList.isEmpty = false := by simpa using e2
  have hpos : 0 < s.size := by omega
  have hN : (s.size : Int) ≤ 39 := by omega
  have hfirst : Hid (∀ h : 0 < s.size, ((s[0]'h).toNat : Int) = 48 → s.size = 1) := fun _ _ => h1
  clear h1
  go_enter Try.func33, Try.ntmps33
  go_wp2_with fail
  go_loopw [5, 6] (fun o i wr => RPar w s o i wr) (fun _ i _ => s.size - (intOf i).toNat)
  case atStart => exact rpar_start w s
  case round =>
    obtain ⟨k, x, y, b, hk, rfl, rfl, hd, hv, hA, hR, hB⟩ := hrel
    have DE : Hid (∀ (j : Nat) (h : j < s.size), j < k → (48 : Int) ≤ ((s[j]'h).toNat : Int) ∧ ((s[j]'h).toNat : Int) ≤ 57) := hd
    have VE : Hid (SoFar b x y (val (s.data.toList.take k))) := hv
    have AE : Hid (AtW wr (w.heap.size + 1) x y) := hA
    have RE : Hid (AtW wr w.heap.size 0 0) := hR
    have BE : Hid (Below w.heap.size w wr) := hB
    clear hd hv hB
    by_cases hlt : k < s.size
    · have i0 : (k : Int) < s.size := by omega
      have i1 : (0 : Int) ≤ (k : Int) := by omega
      obtain ⟨c, hc⟩ : ∃ c : Int, c = ((s[k]'hlt).toNat : Int) := ⟨_, rfl⟩
      have hix : ∀ w, (Instr.index 9 (.string s) (.int .i64 k)).run Try.prog w = .ok (.int .u8 c) w := by rw [hc]; exact index_str s k hlt
      have CE : Hid (c = ((s[k]'hlt).toNat : Int)) := hc
      clear hc
      by_cases g1 : c < 48
      · obtain ⟨r0, r1, r2, r3, r4⟩ := hR
        clear hA
        go_wp2_with fail
        refine bodyPost_ret (v := .tuple #[U 0 0, .int .i64 4]) (by simp [results, Try.results33, go_sem, r0, r1]) rfl ⟨.inr ⟨fun hn => ?_, rfl⟩, sum_below2 BE.out (Nat.le_refl _)⟩
        have := hn.1 k hlt; have := CE.out; omega
      by_cases g2 : 57 < c
      · obtain ⟨r0, r1, r2, r3, r4⟩ := hR
        clear hA
        go_wp2_with fail
        refine bodyPost_ret (v := .tuple #[U 0 0, .int .i64 4]) (by simp [results, Try.results33, go_sem, r0, r1]) rfl ⟨.inr ⟨fun hn => ?_, rfl⟩, sum_below2 BE.out (Nat.le_refl _)⟩
        have := hn.1 k hlt; have := CE.out; omega
      obtain ⟨a0, a1, a2, a3, a4⟩ := hA
      clear hR
      go_wp2_with fail
      have hx := VE.out.1
      have hy := VE.out.2.1
      have ST := in_start VE.out AE.out RE.out BE.out
      have SE : Hid (RIn w wr.heap.size x y ((val (s.data.toList.take k) : Nat) : Int) (.bool b) (.int .i64 0) (wr.alloc (.cells #[.int .u64 x, .int .u64 y] 24))) := ST
      have hn1 : wr.heap.size ≠ w.heap.size + 1 := by omega
      have hn2 : wr.heap.size ≠ w.heap.size := by omega
      have hn3 : w.heap.size ≤ wr.heap.size := by omega
      clear ST VE AE RE BE a0 a1 a2 a3 a4
      generalize wr.alloc (.cells #[.int .u64 x, .int .u64 y] 24) = wi at SE ⊢
      generalize wr.heap.size = T at SE hn1 hn2 hn3 ⊢
      obtain ⟨t, ht⟩ : ∃ t, t = ((val (s.data.toList.take k) : Nat) : Int) := ⟨_, rfl⟩
      have t0 : 0 ≤ t := by omega
      have TE : Hid (t = ((val (s.data.toList.take k) : Nat) : Int)) := ht
      rw [← ht] at SE
      clear ht
      go_loopw [5, 8] (fun o i wr => RIn w T x y t o i wr) (fun _ i _ => 9 - (intOf i).toNat)
      case atStart => exact SE.out
      case round =>
        obtain ⟨j, p, q, b', hj, rfl, rfl, hp, hq, hI, hT, hA, hR, hB⟩ := hrel
        clear SE
        have IE : Hid (InV b' x y t p q j) := hI
        have TT : Hid (AtW wr T p q) := hT
        have AE : Hid (AtW wr (w.heap.size + 1) x y) := hA
        have RE : Hid (AtW wr w.heap.size 0 0) := hR
        have BE : Hid (Below w.heap.size w wr) := hB
        obtain ⟨a0, a1, a2, a3, a4⟩ := hA
        obtain ⟨v0, v1, v2, v3, v4⟩ := hT
        clear hI hR hB
        by_cases hj9 : j < 9
        · have j0 : (j : Int) < 9 := by omega
          go_wp2_with fail
          refine (radd_sum p q x y (V p q + V x y) _ hp hq hx hy rfl).mono ?_
          rintro e w5 ⟨rfl, hB5⟩
          have T5 : Hid (AtW w5 T p q) := TT.out.below hB5
          have A5 : Hid (AtW w5 (w.heap.size + 1) x y) := AE.out.below hB5
          have R5 : Hid (AtW w5 w.heap.size 0 0) := RE.out.below hB5
          have E5 : Hid (Below w.heap.size w w5) := BE.out.trans (hB5.mono BE.out.size)
          clear hB5 a0 a1 a2 a3 a4 v0 v1 v2 v3 v4 TT AE RE BE
          obtain ⟨v0, v1, v2, v3, v4⟩ := id T5.out
          have V0 : Hid (0 ≤ V p q + V x y) := by have := V_nonneg hp hq; have := V_nonneg hx hy; unfold Hid; omega
          by_cases g : V p q + V x y < 340282366920938463463374607431768211456
          · rw [sumV_ok g]
            cases b'
            · go_wp2_with fail
              exact ⟨in_step _ hj9 t0 IE.out (hi_word V0.out g) (lo_word _) (.inr (.inl ⟨rfl, V_words _⟩)) T5.out A5.out R5.out E5.out hn1 hn2 hn3, by simp [intOf]; omega⟩
            · go_wp2_with fail
              exact ⟨in_step _ hj9 t0 IE.out (hi_word V0.out g) (lo_word _) (.inr (.inl ⟨rfl, V_words _⟩)) T5.out A5.out R5.out E5.out hn1 hn2 hn3, by simp [intOf]; omega⟩
          · rw [sumV_over g]
            have G : Hid (¬ V p q + V x y < 340282366920938463463374607431768211456) := g
            clear g
            cases b'
            · go_wp2_with fail
              exact ⟨in_step _ hj9 t0 IE.out word_zero word_zero (.inr (.inr ⟨rfl, by have := G.out; omega⟩)) T5.out A5.out R5.out E5.out hn1 hn2 hn3, by simp [intOf]; omega⟩
            · go_wp2_with fail
              exact ⟨in_step _ hj9 t0 IE.out word_zero word_zero (.inl ⟨rfl, rfl⟩) T5.out A5.out R5.out E5.out hn1 hn2 hn3, by simp [intOf]; omega⟩
        · obtain rfl : j = 9 := by omega
          rw [show ((9 : Nat) : Int) = 9 from rfl]
          go_wp2_with fail
          have WC : Hid (Word (c - 48)) := ⟨by omega, by omega⟩
          have V0 : Hid (0 ≤ V p q + (c - 48)) := by have := V_nonneg hp hq; unfold Hid; omega
          have IE : Hid (InV b' x y ((val (s.data.toList.take k) : Nat) : Int) p q 9) := by
            have := IE.out
            rw [TE.out] at this
            exact this
          have w8 : IntKind.u8.wrap (c - 48) = c - 48 := by rw [IntKind.wrap_u8]; omega
          have w64 : IntKind.u64.wrap (c - 48) = c - 48 := by rw [IntKind.wrap_u64]; omega
          by_cases g : V p q + (c - 48) < 340282366920938463463374607431768211456
          · skip
            refine wp_region_held_drew (S := fun W' => W'.cell? ⟨T, 0, none⟩ = some (.int .u64 p) ∧ W'.cell? ⟨T, 1, none⟩ = some (.int .u64 q) ∧ Hid (Below wr.heap.size wr W')) (by kernel_rfl) ?_ (fun hHeld => ?_)
            · exact ⟨v0, v1, (Below.refl _ _).drew⟩
            refine take_at (i := 0) (v := ?_) (some 64) rfl rfl (by kernel_rfl) (by kernel_rfl) (by kernel_rfl) (fun _ _ _ h => h) (Or.inl ⟨by rfl, ?_⟩) (by assumption) ?_
            rotate_left
            · (intro w hSw; (try dsimp only at hSw); go_simp; try with_reducible rfl)
            simp only [Act.put, List.setIfInBounds_toArray, List.set_cons_zero, List.set_cons_succ]
            refine take_at (i := 1) (v := ?_) (some 65) rfl rfl (by kernel_rfl) (by kernel_rfl) (by kernel_rfl) (fun _ _ _ h => h) (Or.inl ⟨by rfl, ?_⟩) (by assumption) ?_
            rotate_left
            · (intro w hSw; (try dsimp only at hSw); go_simp; try with_reducible rfl)
            simp only [Act.put, List.setIfInBounds_toArray, List.set_cons_zero, List.set_cons_succ]
            refine take_at (i := 2) (v := ?_) (some 66) rfl rfl (by kernel_rfl) (by kernel_rfl) (by kernel_rfl) (fun _ _ _ h => h) (Or.inl ⟨by rfl, ?_⟩) (by assumption) ?_
            rotate_left
            · (intro w hSw; (try dsimp only at hSw); go_simp; try with_reducible rfl)
            simp only [Act.put, List.setIfInBounds_toArray, List.set_cons_zero, List.set_cons_succ]
            refine take_at (i := 3) (v := ?_) (some 67) rfl rfl (by kernel_rfl) (by kernel_rfl) (by kernel_rfl) (fun _ _ _ h => h) (Or.inl ⟨by rfl, ?_⟩) (by assumption) ?_
            rotate_left
            · (intro w hSw; (try dsimp only at hSw); go_simp; try with_reducible rfl)
            simp only [Act.put, List.setIfInBounds_toArray, List.set_cons_zero, List.set_cons_succ]
            refine take_at (i := 4) (v := ?_) (some 68) rfl rfl (by kernel_rfl) (by kernel_rfl) (by kernel_rfl) (fun _ _ _ h => h) (Or.inl ⟨by rfl, ?_⟩) (by assumption) ?_
            rotate_left
            · (intro w hSw; (try dsimp only at hSw); go_simp; try with_reducible rfl)
            simp only [Act.put, List.setIfInBounds_toArray, List.set_cons_zero, List.set_cons_succ]
            refine take_at (i := 5) (v := ?_) (some 69) rfl rfl (by kernel_rfl) (by kernel_rfl) (by kernel_rfl) (fun _ _ _ h => h) (Or.inl ⟨by rfl, ?_⟩) (by assumption) ?_
            rotate_left
            · (intro w hSw; (try dsimp only at hSw); go_simp; try with_reducible rfl)
            simp only [Act.put, List.setIfInBounds_toArray, List.set_cons_zero, List.set_cons_succ]
            obtain ⟨wd, hwd⟩ : ∃ wd, wd = wr.drew := ⟨_, rfl⟩
            rw [← hwd] at hHeld ⊢
            clear hwd
            refine wpAnyH_ready (rs := [6, 11]) (by kernel_rfl) (by simp) ?_
            refine all_call (i := 6) (some 70) 16 _ _ rfl rfl rfl (by rfl) #[.int .u64 (c - 48)] rfl Try.func16 (by kernel_rfl) (by kernel_rfl) ?_ ?_
            · refine (rof_one (c - 48) _).mono ?_
              rintro e W1 ⟨rfl, hB⟩
              refine ⟨_, rfl, keepB v4 hHeld (hB.mono (sizeB hHeld)), fun s1 => ?_⟩
              clear hB
              simp only [Act.put, List.setIfInBounds_toArray, List.set_cons_zero, List.set_cons_succ]
              refine wpAnyH_ready (rs := [7, 11]) (by kernel_rfl) (by simp) ?_
              refine all_call (i := 7) (some 71) 10 _ _ rfl rfl rfl (by rfl) #[U p q, U 0 (c - 48)] rfl Try.func10 (by kernel_rfl) (by kernel_rfl) ?_ ?_
              · refine (radd_sum p q 0 (c - 48) (V p q + (c - 48)) _ hp hq word_zero WC.out (by unfold V; omega)).mono ?_
                rintro e W2 ⟨rfl, hB⟩
                rw [sumV_ok g]
                refine ⟨_, rfl, keepB v4 s1 (hB.mono (sizeB s1)), fun s2 => ?_⟩
                clear hB
                simp only [Act.put, List.setIfInBounds_toArray, List.set_cons_zero, List.set_cons_succ]
                refine take_at (i := 8) (v := ?_) (some 63) rfl rfl (by kernel_rfl) (by kernel_rfl) (by kernel_rfl) (fun _ _ _ h => h) (Or.inl ⟨by rfl, ?_⟩) (by assumption) ?_
                rotate_left
                · (intro w hSw; (try dsimp only at hSw); go_simp; try with_reducible rfl)
                simp only [Act.put, List.setIfInBounds_toArray, List.set_cons_zero, List.set_cons_succ]
                refine take_at (i := 9) (v := ?_) (some 72) rfl rfl (by kernel_rfl) (by kernel_rfl) (by kernel_rfl) (fun _ _ _ h => h) (Or.inl ⟨by rfl, ?_⟩) (by assumption) ?_
                rotate_left
                · (intro w hSw; (try dsimp only at hSw); go_simp; try with_reducible rfl)
                simp only [Act.put, List.setIfInBounds_toArray, List.set_cons_zero, List.set_cons_succ]
                refine take_at (i := 10) (v := ?_) (some 73) rfl rfl (by kernel_rfl) (by kernel_rfl) (by kernel_rfl) (fun _ _ _ h => h) (Or.inl ⟨by rfl, ?_⟩) (by assumption) ?_
                rotate_left
                · (intro w hSw; (try dsimp only at hSw); go_simp; try with_reducible rfl)
                simp only [Act.put, List.setIfInBounds_toArray, List.set_cons_zero, List.set_cons_succ]
                refine wpAnyH_ready (rs := [11]) (by kernel_rfl) (by simp) ?_
                refine all_alloc (i := 11) (some 11) 24 rfl rfl rfl (by rfl) .u64 2 (by kernel_rfl) ?_ ?_
                · intro X W3 hn x3 hB
                  have bX := Nat.le_trans (sizeB s2) hn
                  refine ⟨keepB v4 s2 (hB.mono (sizeB s2)), fun s3 => ?_⟩
                  clear hB hn
                  simp only [Act.put, List.setIfInBounds_toArray, List.set_cons_zero, List.set_cons_succ]
                  refine wpAnyH_ready (rs := [12]) (by kernel_rfl) (by simp) ?_
                  refine all_store (i := 12) none 24 _ _ rfl rfl rfl (by rfl) X .u64 2 (two (hiW (V p q + (c - 48))) (loW (V p q + (c - 48)))) _ rfl rfl x3 (by kernel_rfl) ?_ AllReadyH.nil
                  intro W3 x3 hB
                  refine ⟨keepB v4 s3 (hB.below bX (sizeB s3)), fun s3 => ?_⟩
                  clear hB
                  simp only [Act.put]
                  refine take_at (i := 13) (v := ?_) (some 12) rfl rfl (by kernel_rfl) (by kernel_rfl) (by kernel_rfl) (fun _ _ _ h => h) (Or.inl ⟨by rfl, ?_⟩) (by assumption) ?_
                  rotate_left
                  · (intro w hSw; (try dsimp only at hSw); go_simp; try with_reducible rfl)
                  simp only [Act.put, List.setIfInBounds_toArray, List.set_cons_zero, List.set_cons_succ]
                  refine wpAnyH_done (by kernel_rfl) ?_ _
                  have B3 : Hid (Below wr.heap.size wr W3) := s3.2.2
                  have A3 := AE.out.below B3.out
                  have A4 : Hid (AtW W3 (w.heap.size + 1) x y) := A3
                  have R4 : Hid (AtW W3 w.heap.size 0 0) := RE.out.below B3.out
                  have E3 : Hid (Below w.heap.size w W3) := BE.out.trans (B3.out.mono BE.out.size)
                  have y0 := x3.1 0 (by omega)
                  have y1 := x3.1 1 (by omega)
                  simp only [two] at y0 y1
                  clear s3 x3 B3 AE RE BE TT
                  obtain ⟨z0, z1, z2, z3, z4⟩ := A3
                  cases b'
                  · go_wp2_with fail
                    exact ⟨out_step hlt CE.out (by omega) (by omega) DE.out IE.out (hi_word V0.out g) (lo_word _) (.inr (.inl ⟨rfl, V_words _⟩)) A4.out R4.out E3.out, by simp [intOf]; omega⟩
                  · go_wp2_with fail
                    exact ⟨out_step hlt CE.out (by omega) (by omega) DE.out IE.out (hi_word V0.out g) (lo_word _) (.inr (.inl ⟨rfl, V_words _⟩)) A4.out R4.out E3.out, by simp [intOf]; omega⟩
                exact AllReadyH.nil
              refine all_alloc (i := 11) (some 11) 24 rfl rfl rfl (by rfl) .u64 2 (by kernel_rfl) ?_ ?_
              · intro X W4 hn x4 hB
                have bX := Nat.le_trans (sizeB s1) hn
                refine ⟨keepB v4 s1 (hB.mono (sizeB s1)), fun s4 => ?_⟩
                clear hB hn
                simp only [Act.put, List.setIfInBounds_toArray, List.set_cons_zero, List.set_cons_succ]
                refine wpAnyH_ready (rs := [7]) (by kernel_rfl) (by simp) ?_
                refine all_call (i := 7) (some 71) 10 _ _ rfl rfl rfl (by rfl) #[U p q, U 0 (c - 48)] rfl Try.func10 (by kernel_rfl) (by kernel_rfl) ?_ ?_
                · refine (radd_sum p q 0 (c - 48) (V p q + (c - 48)) _ hp hq word_zero WC.out (by unfold V; omega)).mono ?_
                  rintro e W5 ⟨rfl, hB⟩
                  rw [sumV_ok g]
                  refine ⟨_, rfl, keepB v4 s4 (hB.mono (sizeB s4)), fun s5 => ?_⟩
                  have x5 := x4.below hB
                  clear hB
                  simp only [Act.put, List.setIfInBounds_toArray, List.set_cons_zero, List.set_cons_succ]
                  refine take_at (i := 8) (v := ?_) (some 63) rfl rfl (by kernel_rfl) (by kernel_rfl) (by kernel_rfl) (fun _ _ _ h => h) (Or.inl ⟨by rfl, ?_⟩) (by assumption) ?_
                  rotate_left
                  · (intro w hSw; (try dsimp only at hSw); go_simp; try with_reducible rfl)
                  simp only [Act.put, List.setIfInBounds_toArray, List.set_cons_zero, List.set_cons_succ]
                  refine take_at (i := 9) (v := ?_) (some 72) rfl rfl (by kernel_rfl) (by kernel_rfl) (by kernel_rfl) (fun _ _ _ h => h) (Or.inl ⟨by rfl, ?_⟩) (by assumption) ?_
                  rotate_left
                  · (intro w hSw; (try dsimp only at hSw); go_simp; try with_reducible rfl)
                  simp only [Act.put, List.setIfInBounds_toArray, List.set_cons_zero, List.set_cons_succ]
                  refine take_at (i := 10) (v := ?_) (some 73) rfl rfl (by kernel_rfl) (by kernel_rfl) (by kernel_rfl) (fun _ _ _ h => h) (Or.inl ⟨by rfl, ?_⟩) (by assumption) ?_
                  rotate_left
                  · (intro w hSw; (try dsimp only at hSw); go_simp; try with_reducible rfl)
                  simp only [Act.put, List.setIfInBounds_toArray, List.set_cons_zero, List.set_cons_succ]
                  refine wpAnyH_ready (rs := [12]) (by kernel_rfl) (by simp) ?_
                  refine all_store (i := 12) none 24 _ _ rfl rfl rfl (by rfl) X .u64 2 (two (hiW (V p q + (c - 48))) (loW (V p q + (c - 48)))) _ rfl rfl x5 (by kernel_rfl) ?_ AllReadyH.nil
                  intro W3 x3 hB
                  refine ⟨keepB v4 s5 (hB.below bX (sizeB s5)), fun s3 => ?_⟩
                  clear hB
                  simp only [Act.put]
                  refine take_at (i := 13) (v := ?_) (some 12) rfl rfl (by kernel_rfl) (by kernel_rfl) (by kernel_rfl) (fun _ _ _ h => h) (Or.inl ⟨by rfl, ?_⟩) (by assumption) ?_
                  rotate_left
                  · (intro w hSw; (try dsimp only at hSw); go_simp; try with_reducible rfl)
                  simp only [Act.put, List.setIfInBounds_toArray, List.set_cons_zero, List.set_cons_succ]
                  refine wpAnyH_done (by kernel_rfl) ?_ _
                  have B3 : Hid (Below wr.heap.size wr W3) := s3.2.2
                  have A3 := AE.out.below B3.out
                  have A4 : Hid (AtW W3 (w.heap.size + 1) x y) := A3
                  have R4 : Hid (AtW W3 w.heap.size 0 0) := RE.out.below B3.out
                  have E3 : Hid (Below w.heap.size w W3) := BE.out.trans (B3.out.mono BE.out.size)
                  have y0 := x3.1 0 (by omega)
                  have y1 := x3.1 1 (by omega)
                  simp only [two] at y0 y1
                  clear s3 x3 B3 AE RE BE TT
                  obtain ⟨z0, z1, z2, z3, z4⟩ := A3
                  cases b'
                  · go_wp2_with fail
                    exact ⟨out_step hlt CE.out (by omega) (by omega) DE.out IE.out (hi_word V0.out g) (lo_word _) (.inr (.inl ⟨rfl, V_words _⟩)) A4.out R4.out E3.out, by simp [intOf]; omega⟩
                  · go_wp2_with fail
                    exact ⟨out_step hlt CE.out (by omega) (by omega) DE.out IE.out (hi_word V0.out g) (lo_word _) (.inr (.inl ⟨rfl, V_words _⟩)) A4.out R4.out E3.out, by simp [intOf]; omega⟩
                exact AllReadyH.nil
              exact AllReadyH.nil
            refine all_alloc (i := 11) (some 11) 24 rfl rfl rfl (by rfl) .u64 2 (by kernel_rfl) ?_ ?_
            · intro X W6 hn x6 hB
              have bX := Nat.le_trans (sizeB hHeld) hn
              refine ⟨keepB v4 hHeld (hB.mono (sizeB hHeld)), fun s6 => ?_⟩
              clear hB hn
              simp only [Act.put, List.setIfInBounds_toArray, List.set_cons_zero, List.set_cons_succ]
              refine wpAnyH_ready (rs := [6]) (by kernel_rfl) (by simp) ?_
              refine all_call (i := 6) (some 70) 16 _ _ rfl rfl rfl (by rfl) #[.int .u64 (c - 48)] rfl Try.func16 (by kernel_rfl) (by kernel_rfl) ?_ ?_
              · refine (rof_one (c - 48) _).mono ?_
                rintro e W7 ⟨rfl, hB⟩
                refine ⟨_, rfl, keepB v4 s6 (hB.mono (sizeB s6)), fun s7 => ?_⟩
                have x7 := x6.below hB
                clear hB
                simp only [Act.put, List.setIfInBounds_toArray, List.set_cons_zero, List.set_cons_succ]
                refine wpAnyH_ready (rs := [7]) (by kernel_rfl) (by simp) ?_
                refine all_call (i := 7) (some 71) 10 _ _ rfl rfl rfl (by rfl) #[U p q, U 0 (c - 48)] rfl Try.func10 (by kernel_rfl) (by kernel_rfl) ?_ ?_
                · refine (radd_sum p q 0 (c - 48) (V p q + (c - 48)) _ hp hq word_zero WC.out (by unfold V; omega)).mono ?_
                  rintro e W8 ⟨rfl, hB⟩
                  rw [sumV_ok g]
                  refine ⟨_, rfl, keepB v4 s7 (hB.mono (sizeB s7)), fun s8 => ?_⟩
                  have x8 := x7.below hB
                  clear hB
                  simp only [Act.put, List.setIfInBounds_toArray, List.set_cons_zero, List.set_cons_succ]
                  refine take_at (i := 8) (v := ?_) (some 63) rfl rfl (by kernel_rfl) (by kernel_rfl) (by kernel_rfl) (fun _ _ _ h => h) (Or.inl ⟨by rfl, ?_⟩) (by assumption) ?_
                  rotate_left
                  · (intro w hSw; (try dsimp only at hSw); go_simp; try with_reducible rfl)
                  simp only [Act.put, List.setIfInBounds_toArray, List.set_cons_zero, List.set_cons_succ]
                  refine take_at (i := 9) (v := ?_) (some 72) rfl rfl (by kernel_rfl) (by kernel_rfl) (by kernel_rfl) (fun _ _ _ h => h) (Or.inl ⟨by rfl, ?_⟩) (by assumption) ?_
                  rotate_left
                  · (intro w hSw; (try dsimp only at hSw); go_simp; try with_reducible rfl)
                  simp only [Act.put, List.setIfInBounds_toArray, List.set_cons_zero, List.set_cons_succ]
                  refine take_at (i := 10) (v := ?_) (some 73) rfl rfl (by kernel_rfl) (by kernel_rfl) (by kernel_rfl) (fun _ _ _ h => h) (Or.inl ⟨by rfl, ?_⟩) (by assumption) ?_
                  rotate_left
                  · (intro w hSw; (try dsimp only at hSw); go_simp; try with_reducible rfl)
                  simp only [Act.put, List.setIfInBounds_toArray, List.set_cons_zero, List.set_cons_succ]
                  refine wpAnyH_ready (rs := [12]) (by kernel_rfl) (by simp) ?_
                  refine all_store (i := 12) none 24 _ _ rfl rfl rfl (by rfl) X .u64 2 (two (hiW (V p q + (c - 48))) (loW (V p q + (c - 48)))) _ rfl rfl x8 (by kernel_rfl) ?_ AllReadyH.nil
                  intro W3 x3 hB
                  refine ⟨keepB v4 s8 (hB.below bX (sizeB s8)), fun s3 => ?_⟩
                  clear hB
                  simp only [Act.put]
                  refine take_at (i := 13) (v := ?_) (some 12) rfl rfl (by kernel_rfl) (by kernel_rfl) (by kernel_rfl) (fun _ _ _ h => h) (Or.inl ⟨by rfl, ?_⟩) (by assumption) ?_
                  rotate_left
                  · (intro w hSw; (try dsimp only at hSw); go_simp; try with_reducible rfl)
                  simp only [Act.put, List.setIfInBounds_toArray, List.set_cons_zero, List.set_cons_succ]
                  refine wpAnyH_done (by kernel_rfl) ?_ _
                  have B3 : Hid (Below wr.heap.size wr W3) := s3.2.2
                  have A3 := AE.out.below B3.out
                  have A4 : Hid (AtW W3 (w.heap.size + 1) x y) := A3
                  have R4 : Hid (AtW W3 w.heap.size 0 0) := RE.out.below B3.out
                  have E3 : Hid (Below w.heap.size w W3) := BE.out.trans (B3.out.mono BE.out.size)
                  have y0 := x3.1 0 (by omega)
                  have y1 := x3.1 1 (by omega)
                  simp only [two] at y0 y1
                  clear s3 x3 B3 AE RE BE TT
                  obtain ⟨z0, z1, z2, z3, z4⟩ := A3
                  cases b'
                  · go_wp2_with fail
                    exact ⟨out_step hlt CE.out (by omega) (by omega) DE.out IE.out (hi_word V0.out g) (lo_word _) (.inr (.inl ⟨rfl, V_words _⟩)) A4.out R4.out E3.out, by simp [intOf]; omega⟩
                  · go_wp2_with fail
                    exact ⟨out_step hlt CE.out (by omega) (by omega) DE.out IE.out (hi_word V0.out g) (lo_word _) (.inr (.inl ⟨rfl, V_words _⟩)) A4.out R4.out E3.out, by simp [intOf]; omega⟩
                exact AllReadyH.nil
              exact AllReadyH.nil
            exact AllReadyH.nil
          · skip
            refine wp_region_held_drew (S := fun W' => W'.cell? ⟨T, 0, none⟩ = some (.int .u64 p) ∧ W'.cell? ⟨T, 1, none⟩ = some (.int .u64 q) ∧ Hid (Below wr.heap.size wr W')) (by kernel_rfl) ?_ (fun hHeld => ?_)
            · exact ⟨v0, v1, (Below.refl _ _).drew⟩
            refine take_at (i := 0) (v := ?_) (some 64) rfl rfl (by kernel_rfl) (by kernel_rfl) (by kernel_rfl) (fun _ _ _ h => h) (Or.inl ⟨by rfl, ?_⟩) (by assumption) ?_
            rotate_left
            · (intro w hSw; (try dsimp only at hSw); go_simp; try with_reducible rfl)
            simp only [Act.put, List.setIfInBounds_toArray, List.set_cons_zero, List.set_cons_succ]
            refine take_at (i := 1) (v := ?_) (some 65) rfl rfl (by kernel_rfl) (by kernel_rfl) (by kernel_rfl) (fun _ _ _ h => h) (Or.inl ⟨by rfl, ?_⟩) (by assumption) ?_
            rotate_left
            · (intro w hSw; (try dsimp only at hSw); go_simp; try with_reducible rfl)
            simp only [Act.put, List.setIfInBounds_toArray, List.set_cons_zero, List.set_cons_succ]
            refine take_at (i := 2) (v := ?_) (some 66) rfl rfl (by kernel_rfl) (by kernel_rfl) (by kernel_rfl) (fun _ _ _ h => h) (Or.inl ⟨by rfl, ?_⟩) (by assumption) ?_
            rotate_left
            · (intro w hSw; (try dsimp only at hSw); go_simp; try with_reducible rfl)
            simp only [Act.put, List.setIfInBounds_toArray, List.set_cons_zero, List.set_cons_succ]
            refine take_at (i := 3) (v := ?_) (some 67) rfl rfl (by kernel_rfl) (by kernel_rfl) (by kernel_rfl) (fun _ _ _ h => h) (Or.inl ⟨by rfl, ?_⟩) (by assumption) ?_
            rotate_left
            · (intro w hSw; (try dsimp only at hSw); go_simp; try with_reducible rfl)
            simp only [Act.put, List.setIfInBounds_toArray, List.set_cons_zero, List.set_cons_succ]
            refine take_at (i := 4) (v := ?_) (some 68) rfl rfl (by kernel_rfl) (by kernel_rfl) (by kernel_rfl) (fun _ _ _ h => h) (Or.inl ⟨by rfl, ?_⟩) (by assumption) ?_
            rotate_left
            · (intro w hSw; (try dsimp only at hSw); go_simp; try with_reducible rfl)
            simp only [Act.put, List.setIfInBounds_toArray, List.set_cons_zero, List.set_cons_succ]
            refine take_at (i := 5) (v := ?_) (some 69) rfl rfl (by kernel_rfl) (by kernel_rfl) (by kernel_rfl) (fun _ _ _ h => h) (Or.inl ⟨by rfl, ?_⟩) (by assumption) ?_
            rotate_left
            · (intro w hSw; (try dsimp only at hSw); go_simp; try with_reducible rfl)
            simp only [Act.put, List.setIfInBounds_toArray, List.set_cons_zero, List.set_cons_succ]
            obtain ⟨wd, hwd⟩ : ∃ wd, wd = wr.drew := ⟨_, rfl⟩
            rw [← hwd] at hHeld ⊢
            clear hwd
            refine wpAnyH_ready (rs := [6, 11]) (by kernel_rfl) (by simp) ?_
            refine all_call (i := 6) (some 70) 16 _ _ rfl rfl rfl (by rfl) #[.int .u64 (c - 48)] rfl Try.func16 (by kernel_rfl) (by kernel_rfl) ?_ ?_
            · refine (rof_one (c - 48) _).mono ?_
              rintro e W1 ⟨rfl, hB⟩
              refine ⟨_, rfl, keepB v4 hHeld (hB.mono (sizeB hHeld)), fun s1 => ?_⟩
              clear hB
              simp only [Act.put, List.setIfInBounds_toArray, List.set_cons_zero, List.set_cons_succ]
              refine wpAnyH_ready (rs := [7, 11]) (by kernel_rfl) (by simp) ?_
              refine all_call (i := 7) (some 71) 10 _ _ rfl rfl rfl (by rfl) #[U p q, U 0 (c - 48)] rfl Try.func10 (by kernel_rfl) (by kernel_rfl) ?_ ?_
              · refine (radd_sum p q 0 (c - 48) (V p q + (c - 48)) _ hp hq word_zero WC.out (by unfold V; omega)).mono ?_
                rintro e W2 ⟨rfl, hB⟩
                rw [sumV_over (t := (V p q + (c - 48))) g]
                refine ⟨_, rfl, keepB v4 s1 (hB.mono (sizeB s1)), fun s2 => ?_⟩
                clear hB
                simp only [Act.put, List.setIfInBounds_toArray, List.set_cons_zero, List.set_cons_succ]
                refine take_at (i := 8) (v := ?_) (some 63) rfl rfl (by kernel_rfl) (by kernel_rfl) (by kernel_rfl) (fun _ _ _ h => h) (Or.inl ⟨by rfl, ?_⟩) (by assumption) ?_
                rotate_left
                · (intro w hSw; (try dsimp only at hSw); go_simp; try with_reducible rfl)
                simp only [Act.put, List.setIfInBounds_toArray, List.set_cons_zero, List.set_cons_succ]
                refine take_at (i := 9) (v := ?_) (some 72) rfl rfl (by kernel_rfl) (by kernel_rfl) (by kernel_rfl) (fun _ _ _ h => h) (Or.inl ⟨by rfl, ?_⟩) (by assumption) ?_
                rotate_left
                · (intro w hSw; (try dsimp only at hSw); go_simp; try with_reducible rfl)
                simp only [Act.put, List.setIfInBounds_toArray, List.set_cons_zero, List.set_cons_succ]
                refine take_at (i := 10) (v := ?_) (some 73) rfl rfl (by kernel_rfl) (by kernel_rfl) (by kernel_rfl) (fun _ _ _ h => h) (Or.inl ⟨by rfl, ?_⟩) (by assumption) ?_
                rotate_left
                · (intro w hSw; (try dsimp only at hSw); go_simp; try with_reducible rfl)
                simp only [Act.put, List.setIfInBounds_toArray, List.set_cons_zero, List.set_cons_succ]
                refine wpAnyH_ready (rs := [11]) (by kernel_rfl) (by simp) ?_
                refine all_alloc (i := 11) (some 11) 24 rfl rfl rfl (by rfl) .u64 2 (by kernel_rfl) ?_ ?_
                · intro X W3 hn x3 hB
                  have bX := Nat.le_trans (sizeB s2) hn
                  refine ⟨keepB v4 s2 (hB.mono (sizeB s2)), fun s3 => ?_⟩
                  clear hB hn
                  simp only [Act.put, List.setIfInBounds_toArray, List.set_cons_zero, List.set_cons_succ]
                  refine wpAnyH_ready (rs := [12]) (by kernel_rfl) (by simp) ?_
                  refine all_store (i := 12) none 24 _ _ rfl rfl rfl (by rfl) X .u64 2 (two 0 0) _ rfl rfl x3 (by kernel_rfl) ?_ AllReadyH.nil
                  intro W3 x3 hB
                  refine ⟨keepB v4 s3 (hB.below bX (sizeB s3)), fun s3 => ?_⟩
                  clear hB
                  simp only [Act.put]
                  refine take_at (i := 13) (v := ?_) (some 12) rfl rfl (by kernel_rfl) (by kernel_rfl) (by kernel_rfl) (fun _ _ _ h => h) (Or.inl ⟨by rfl, ?_⟩) (by assumption) ?_
                  rotate_left
                  · (intro w hSw; (try dsimp only at hSw); go_simp; try with_reducible rfl)
                  simp only [Act.put, List.setIfInBounds_toArray, List.set_cons_zero, List.set_cons_succ]
                  refine wpAnyH_done (by kernel_rfl) ?_ _
                  have B3 : Hid (Below wr.heap.size wr W3) := s3.2.2
                  have A3 := AE.out.below B3.out
                  have A4 : Hid (AtW W3 (w.heap.size + 1) x y) := A3
                  have R4 : Hid (AtW W3 w.heap.size 0 0) := RE.out.below B3.out
                  have E3 : Hid (Below w.heap.size w W3) := BE.out.trans (B3.out.mono BE.out.size)
                  have y0 := x3.1 0 (by omega)
                  have y1 := x3.1 1 (by omega)
                  simp only [two] at y0 y1
                  clear s3 x3 B3 AE RE BE TT
                  obtain ⟨z0, z1, z2, z3, z4⟩ := A3
                  cases b'
                  · go_wp2_with fail
                    exact ⟨out_step hlt CE.out (by omega) (by omega) DE.out IE.out word_zero word_zero (.inr (.inr ⟨rfl, by omega⟩)) A4.out R4.out E3.out, by simp [intOf]; omega⟩
                  · go_wp2_with fail
                    exact ⟨out_step hlt CE.out (by omega) (by omega) DE.out IE.out word_zero word_zero (.inl ⟨rfl, rfl⟩) A4.out R4.out E3.out, by simp [intOf]; omega⟩
                exact AllReadyH.nil
              refine all_alloc (i := 11) (some 11) 24 rfl rfl rfl (by rfl) .u64 2 (by kernel_rfl) ?_ ?_
              · intro X W4 hn x4 hB
                have bX := Nat.le_trans (sizeB s1) hn
                refine ⟨keepB v4 s1 (hB.mono (sizeB s1)), fun s4 => ?_⟩
                clear hB hn
                simp only [Act.put, List.setIfInBounds_toArray, List.set_cons_zero, List.set_cons_succ]
                refine wpAnyH_ready (rs := [7]) (by kernel_rfl) (by simp) ?_
                refine all_call (i := 7) (some 71) 10 _ _ rfl rfl rfl (by rfl) #[U p q, U 0 (c - 48)] rfl Try.func10 (by kernel_rfl) (by kernel_rfl) ?_ ?_
                · refine (radd_sum p q 0 (c - 48) (V p q + (c - 48)) _ hp hq word_zero WC.out (by unfold V; omega)).mono ?_
                  rintro e W5 ⟨rfl, hB⟩
                  rw [sumV_over (t := (V p q + (c - 48))) g]
                  refine ⟨_, rfl, keepB v4 s4 (hB.mono (sizeB s4)), fun s5 => ?_⟩
                  have x5 := x4.below hB
                  clear hB
                  simp only [Act.put, List.setIfInBounds_toArray, List.set_cons_zero, List.set_cons_succ]
                  refine take_at (i := 8) (v := ?_) (some 63) rfl rfl (by kernel_rfl) (by kernel_rfl) (by kernel_rfl) (fun _ _ _ h => h) (Or.inl ⟨by rfl, ?_⟩) (by assumption) ?_
                  rotate_left
                  · (intro w hSw; (try dsimp only at hSw); go_simp; try with_reducible rfl)
                  simp only [Act.put, List.setIfInBounds_toArray, List.set_cons_zero, List.set_cons_succ]
                  refine take_at (i := 9) (v := ?_) (some 72) rfl rfl (by kernel_rfl) (by kernel_rfl) (by kernel_rfl) (fun _ _ _ h => h) (Or.inl ⟨by rfl, ?_⟩) (by assumption) ?_
                  rotate_left
                  · (intro w hSw; (try dsimp only at hSw); go_simp; try with_reducible rfl)
                  simp only [Act.put, List.setIfInBounds_toArray, List.set_cons_zero, List.set_cons_succ]
                  refine take_at (i := 10) (v := ?_) (some 73) rfl rfl (by kernel_rfl) (by kernel_rfl) (by kernel_rfl) (fun _ _ _ h => h) (Or.inl ⟨by rfl, ?_⟩) (by assumption) ?_
                  rotate_left
                  · (intro w hSw; (try dsimp only at hSw); go_simp; try with_reducible rfl)
                  simp only [Act.put, List.setIfInBounds_toArray, List.set_cons_zero, List.set_cons_succ]
                  refine wpAnyH_ready (rs := [12]) (by kernel_rfl) (by simp) ?_
                  refine all_store (i := 12) none 24 _ _ rfl rfl rfl (by rfl) X .u64 2 (two 0 0) _ rfl rfl x5 (by kernel_rfl) ?_ AllReadyH.nil
                  intro W3 x3 hB
                  refine ⟨keepB v4 s5 (hB.below bX (sizeB s5)), fun s3 => ?_⟩
                  clear hB
                  simp only [Act.put]
                  refine take_at (i := 13) (v := ?_) (some 12) rfl rfl (by kernel_rfl) (by kernel_rfl) (by kernel_rfl) (fun _ _ _ h => h) (Or.inl ⟨by rfl, ?_⟩) (by assumption) ?_
                  rotate_left
                  · (intro w hSw; (try dsimp only at hSw); go_simp; try with_reducible rfl)
                  simp only [Act.put, List.setIfInBounds_toArray, List.set_cons_zero, List.set_cons_succ]
                  refine wpAnyH_done (by kernel_rfl) ?_ _
                  have B3 : Hid (Below wr.heap.size wr W3) := s3.2.2
                  have A3 := AE.out.below B3.out
                  have A4 : Hid (AtW W3 (w.heap.size + 1) x y) := A3
                  have R4 : Hid (AtW W3 w.heap.size 0 0) := RE.out.below B3.out
                  have E3 : Hid (Below w.heap.size w W3) := BE.out.trans (B3.out.mono BE.out.size)
                  have y0 := x3.1 0 (by omega)
                  have y1 := x3.1 1 (by omega)
                  simp only [two] at y0 y1
                  clear s3 x3 B3 AE RE BE TT
                  obtain ⟨z0, z1, z2, z3, z4⟩ := A3
                  cases b'
                  · go_wp2_with fail
                    exact ⟨out_step hlt CE.out (by omega) (by omega) DE.out IE.out word_zero word_zero (.inr (.inr ⟨rfl, by omega⟩)) A4.out R4.out E3.out, by simp [intOf]; omega⟩
                  · go_wp2_with fail
                    exact ⟨out_step hlt CE.out (by omega) (by omega) DE.out IE.out word_zero word_zero (.inl ⟨rfl, rfl⟩) A4.out R4.out E3.out, by simp [intOf]; omega⟩
                exact AllReadyH.nil
              exact AllReadyH.nil
            refine all_alloc (i := 11) (some 11) 24 rfl rfl rfl (by rfl) .u64 2 (by kernel_rfl) ?_ ?_
            · intro X W6 hn x6 hB
              have bX := Nat.le_trans (sizeB hHeld) hn
              refine ⟨keepB v4 hHeld (hB.mono (sizeB hHeld)), fun s6 => ?_⟩
              clear hB hn
              simp only [Act.put, List.setIfInBounds_toArray, List.set_cons_zero, List.set_cons_succ]
              refine wpAnyH_ready (rs := [6]) (by kernel_rfl) (by simp) ?_
              refine all_call (i := 6) (some 70) 16 _ _ rfl rfl rfl (by rfl) #[.int .u64 (c - 48)] rfl Try.func16 (by kernel_rfl) (by kernel_rfl) ?_ ?_
              · refine (rof_one (c - 48) _).mono ?_
                rintro e W7 ⟨rfl, hB⟩
                refine ⟨_, rfl, keepB v4 s6 (hB.mono (sizeB s6)), fun s7 => ?_⟩
                have x7 := x6.below hB
                clear hB
                simp only [Act.put, List.setIfInBounds_toArray, List.set_cons_zero, List.set_cons_succ]
                refine wpAnyH_ready (rs := [7]) (by kernel_rfl) (by simp) ?_
                refine all_call (i := 7) (some 71) 10 _ _ rfl rfl rfl (by rfl) #[U p q, U 0 (c - 48)] rfl Try.func10 (by kernel_rfl) (by kernel_rfl) ?_ ?_
                · refine (radd_sum p q 0 (c - 48) (V p q + (c - 48)) _ hp hq word_zero WC.out (by unfold V; omega)).mono ?_
                  rintro e W8 ⟨rfl, hB⟩
                  rw [sumV_over (t := (V p q + (c - 48))) g]
                  refine ⟨_, rfl, keepB v4 s7 (hB.mono (sizeB s7)), fun s8 => ?_⟩
                  have x8 := x7.below hB
                  clear hB
                  simp only [Act.put, List.setIfInBounds_toArray, List.set_cons_zero, List.set_cons_succ]
                  refine take_at (i := 8) (v := ?_) (some 63) rfl rfl (by kernel_rfl) (by kernel_rfl) (by kernel_rfl) (fun _ _ _ h => h) (Or.inl ⟨by rfl, ?_⟩) (by assumption) ?_
                  rotate_left
                  · (intro w hSw; (try dsimp only at hSw); go_simp; try with_reducible rfl)
                  simp only [Act.put, List.setIfInBounds_toArray, List.set_cons_zero, List.set_cons_succ]
                  refine take_at (i := 9) (v := ?_) (some 72) rfl rfl (by kernel_rfl) (by kernel_rfl) (by kernel_rfl) (fun _ _ _ h => h) (Or.inl ⟨by rfl, ?_⟩) (by assumption) ?_
                  rotate_left
                  · (intro w hSw; (try dsimp only at hSw); go_simp; try with_reducible rfl)
                  simp only [Act.put, List.setIfInBounds_toArray, List.set_cons_zero, List.set_cons_succ]
                  refine take_at (i := 10) (v := ?_) (some 73) rfl rfl (by kernel_rfl) (by kernel_rfl) (by kernel_rfl) (fun _ _ _ h => h) (Or.inl ⟨by rfl, ?_⟩) (by assumption) ?_
                  rotate_left
                  · (intro w hSw; (try dsimp only at hSw); go_simp; try with_reducible rfl)
                  simp only [Act.put, List.setIfInBounds_toArray, List.set_cons_zero, List.set_cons_succ]
                  refine wpAnyH_ready (rs := [12]) (by kernel_rfl) (by simp) ?_
                  refine all_store (i := 12) none 24 _ _ rfl rfl rfl (by rfl) X .u64 2 (two 0 0) _ rfl rfl x8 (by kernel_rfl) ?_ AllReadyH.nil
                  intro W3 x3 hB
                  refine ⟨keepB v4 s8 (hB.below bX (sizeB s8)), fun s3 => ?_⟩
                  clear hB
                  simp only [Act.put]
                  refine take_at (i := 13) (v := ?_) (some 12) rfl rfl (by kernel_rfl) (by kernel_rfl) (by kernel_rfl) (fun _ _ _ h => h) (Or.inl ⟨by rfl, ?_⟩) (by assumption) ?_
                  rotate_left
                  · (intro w hSw; (try dsimp only at hSw); go_simp; try with_reducible rfl)
                  simp only [Act.put, List.setIfInBounds_toArray, List.set_cons_zero, List.set_cons_succ]
                  refine wpAnyH_done (by kernel_rfl) ?_ _
                  have B3 : Hid (Below wr.heap.size wr W3) := s3.2.2
                  have A3 := AE.out.below B3.out
                  have A4 : Hid (AtW W3 (w.heap.size + 1) x y) := A3
                  have R4 : Hid (AtW W3 w.heap.size 0 0) := RE.out.below B3.out
                  have E3 : Hid (Below w.heap.size w W3) := BE.out.trans (B3.out.mono BE.out.size)
                  have y0 := x3.1 0 (by omega)
                  have y1 := x3.1 1 (by omega)
                  simp only [two] at y0 y1
                  clear s3 x3 B3 AE RE BE TT
                  obtain ⟨z0, z1, z2, z3, z4⟩ := A3
                  cases b'
                  · go_wp2_with fail
                    exact ⟨out_step hlt CE.out (by omega) (by omega) DE.out IE.out word_zero word_zero (.inr (.inr ⟨rfl, by omega⟩)) A4.out R4.out E3.out, by simp [intOf]; omega⟩
                  · go_wp2_with fail
                    exact ⟨out_step hlt CE.out (by omega) (by omega) DE.out IE.out word_zero word_zero (.inl ⟨rfl, rfl⟩) A4.out R4.out E3.out, by simp [intOf]; omega⟩
                exact AllReadyH.nil
              exact AllReadyH.nil
            exact AllReadyH.nil
    · obtain rfl : k = s.size := by omega
      have FIN : Hid (RPost s (.returned (if b then Value.tuple #[U 0 0, .int .i64 15] else .tuple #[U x y, .int .i64 0]))) := by
        have h0 := VE.out.last
        rw [show s.data.toList.take s.size = s.data.toList from List.take_of_length_le (Nat.le_of_eq Array.length_toList)] at h0
        rw [h0]
        exact .inl ⟨⟨fun i h => DE.out i h h, hpos, hfirst.out⟩, rfl⟩
      obtain ⟨a0, a1, a2, a3, a4⟩ := hA
      obtain ⟨r0, r1, r2, r3, r4⟩ := hR
      cases b
      · go_wp2_with fail
        exact bodyPost_ret (v := .tuple #[U x y, .int .i64 0]) (by simp [results, Try.results33, go_sem, r0, r1]) rfl ⟨FIN.out, sum_below2 BE.out (Nat.le_refl _)⟩
      · go_wp2_with fail
        exact bodyPost_ret (v := .tuple #[U 0 0, .int .i64 15]) (by simp [results, Try.results33, go_sem, r0, r1]) rfl ⟨FIN.out, sum_below2 BE.out (Nat.le_refl _)⟩
end Go.Proofs.Ytkpkehbhgfbckaa
