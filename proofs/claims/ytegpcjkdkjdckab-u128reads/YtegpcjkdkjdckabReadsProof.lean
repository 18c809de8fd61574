/-
  Proved: U128Reads: for every number, every bytes and every text, in whatever memory, on every schedule, the statement's function returns true: bytes, keys and texts lead back. No condition.
-/
import Derived.Test.YtegpcjkdkjdckabReads
import Derived.Test.YtegpcjkdkjdckabFrame
namespace Go.Proofs.Ytegpcjkdkjdckab
open Go.ChangeShapes Go.WideShapes Go.ChangeAt Go.RowKit
open Go.ChangeMaps (open_string shut_string)

theorem reads_far1 (ah al : Int) (ad : Option Addr) (len cap : Nat) (s : ByteArray) (w : World) (h : 1000 < len) :
    Calls Try.prog 3 #[U ah al, .slice ad len cap, .string s] w fun e w' => e = .returned (.bool true) ∧ Below w.heap.size w w' := by
  have h' : (1000 : Int) < len := by omega
  go_enter Try.func3, Try.ntmps3
  go_wp2_with fail
  refine (known_any _).mono ?_
  rintro e w1 ⟨rfl, hb1⟩
  go_wp2_with fail
  go_ret
  exact ⟨rfl, ((Below.refl _ _).alloc (Nat.le_refl _) _).trans (hb1.mono (by simp))⟩
theorem reads_far2 (ah al : Int) (ad : Option Addr) (len cap : Nat) (s : ByteArray) (w : World) (h0 : len ≤ 1000) (h : 1000 < s.size) :
    Calls Try.prog 3 #[U ah al, .slice ad len cap, .string s] w fun e w' => e = .returned (.bool true) ∧ Below w.heap.size w w' := by
  have h0' : (len : Int) ≤ 1000 := by omega
  have h' : (1000 : Int) < s.size := by omega
  go_enter Try.func3, Try.ntmps3
  go_wp2_with fail
  refine (known_any _).mono ?_
  rintro e w1 ⟨rfl, hb1⟩
  go_wp2_with fail
  go_ret
  exact ⟨rfl, ((Below.refl _ _).alloc (Nat.le_refl _) _).trans (hb1.mono (by simp))⟩

theorem parse_bad (s : ByteArray) (h : ¬ (s.size ≤ 39 ∧ NumP s ∧ val s.data.toList < 340282366920938463463374607431768211456)) (u : World) :
    Calls Try.prog 10 #[.string s] u fun e w' => ∃ c : Int, e = .returned (.tuple #[U 0 0, .int .i64 c]) ∧ (c != 0) = true ∧ Below u.heap.size u w' := by
  by_cases h1 : s.size ≤ 39
  · by_cases h2 : NumP s
    · refine (parse_far s u h1 h2 (by have : ¬ val s.data.toList < 340282366920938463463374607431768211456 := fun k => h ⟨h1, h2, k⟩; omega)).mono ?_
      rintro e w' ⟨rfl, hb⟩
      exact ⟨15, rfl, by decide, hb⟩
    · refine (parse_no s u h1 h2).mono ?_
      rintro e w' ⟨rfl, hb⟩
      exact ⟨4, rfl, by decide, hb⟩
  · refine (parse_long s u (by omega)).mono ?_
    rintro e w' ⟨rfl, hb⟩
    exact ⟨3, rfl, by decide, hb⟩

/-- What the walk is told of bytes that came in. -/
def IsRow (w : World) (a : Option Addr) (len cap : Nat) (zs : List Int) : Prop :=
  (a = none ∧ len = 0 ∧ cap = 0 ∧ zs = []) ∨
  ∃ x, a = some x ∧ len ≤ cap ∧ zs.length = cap ∧ (∀ i, i < zs.length → w.cell? (x.add i) = some (.int .u8 (zs.getD i 0))) ∧ ∀ n ∈ zs, (Lit.int .u8 n).wf = true
theorem byte_of_wf {x : Int} (h : (Lit.int .u8 x).wf = true) : 0 ≤ x ∧ x < 256 := by
  simp [Lit.wf, IntKind.min, IntKind.max, IntKind.signed, IntKind.bits] at h
  exact ⟨by omega, by omega⟩
theorem row16_of {w : World} {a : Option Addr} {len cap : Nat} {zs : List Int} (h : IsRow w a len cap zs) (h16 : len = 16) : ∃ b off, a = some ⟨b, off, none⟩ ∧ 16 ≤ cap ∧ Row16 w b off (fun j => zs.getD j 0) := by
  rcases h with ⟨_, h0, _, _⟩ | ⟨x, rfl, hl, hz, hcell, hwz⟩
  · omega
  · obtain ⟨b, off, spot⟩ := x
    have hc := hcell 0 (by omega)
    have hspot : spot = none := by simpa [Addr.add] using World.cell?_spot hc
    subst hspot
    have hc' : ∀ j, j < 16 → w.cell? ⟨b, off + j, none⟩ = some (.int .u8 (zs.getD j 0)) := fun j hj => by
      have := hcell j (by omega)
      rwa [Addr.add_mid] at this
    refine ⟨b, off, rfl, by omega, hc', fun j hj => ?_, ?_⟩
    · have hjl : j < zs.length := by omega
      show 0 ≤ zs.getD j 0 ∧ zs.getD j 0 < 256
      rw [List.getD_eq_getElem?_getD, List.getElem?_eq_getElem hjl]
      exact byte_of_wf (hwz _ (List.getElem_mem hjl))
    · have h0 := hc' 0 (by omega)
      exact World.block_lt_of_cell? w _ h0

theorem reads_any (ah al : Int) (a : Option Addr) (len cap : Nat) (zs : List Int) (s : ByteArray) (w : World) (h1 : Word ah) (h2 : Word al) (hr : IsRow w a len cap zs) :
    Calls Try.prog 3 #[U ah al, .slice a len cap, .string s] w fun e w' => e = .returned (.bool true) ∧ Below w.heap.size w w' := by
  by_cases g1 : 1000 < len
  · exact reads_far1 ah al a len cap s w g1
  by_cases g2 : 1000 < s.size
  · exact reads_far2 ah al a len cap s w (by omega) g2
  by_cases g3 : s.size ≤ 39 ∧ NumP s ∧ val s.data.toList < 340282366920938463463374607431768211456
  · obtain ⟨k1, k2, k3⟩ := g3
    by_cases g4 : len = 16
    · obtain ⟨b, off, rfl, hcap, hR⟩ := row16_of hr g4
      subst g4
      exact reads_tt ah al b off cap _ s w h1 h2 hR hcap k1 k2 k3
    · exact reads_ft ah al a len cap s w h1 h2 g4 (by omega) k1 k2 k3
  · by_cases g4 : len = 16
    · obtain ⟨b, off, rfl, hcap, hR⟩ := row16_of hr g4
      subst g4
      exact reads_tf ah al b off cap _ s w h1 h2 hR hcap (by omega) (parse_bad s g3)
    · exact reads_ff ah al a len cap s w h1 h2 g4 (by omega) (by omega) (parse_bad s g3)

set_option maxRecDepth 100000 in
theorem reads_lifted (os : Os) (started : os.Started) (H : Type) (enc : TypeId × Value → H) :
    ReturnsInHanded {} Try.checked os 3 .any (Rows.u128ReadsSpec.pre6 enc Try.prog Try.f3 Rows.u128ReadsRow.domain false) (Rows.u128ReadsSpec.post enc Try.prog Try.f3 false true false false) := by
  refine returnsInHanded_of_change (C := Try.checked) own_knob started (by kernel_rfl) Try.func3
    (ChangeSpec.witness6 (enc := enc) (C := Try.checked) false ⟨#[], #[.agg #[.int .u64 0, .int .u64 0], .slice none 0 0, .string ⟨#[]⟩], []⟩ 8 (by kernel_rfl) (by kernel_rfl) (by kernel_rfl) (by kernel_rfl)) ?_
  intro W base args ds gs before hval0 hW hcnd _
  have hval : ∀ (j : Nat) t v, Try.f3.params[j]? = some t → args[j]? = some v → Value.okWide Try.prog W .any base t v := hval0
  have hW' := hW
  obtain ⟨p, q, hA0, hV, rfl, hfz, hnd⟩ := hW
  have hA : DataW.TrodAll enc Try.prog W 0 (fun _ => true) true Try.f3.params.toList args.toList ds p := hA0
  rw [Try.params3] at hA hval
  obtain ⟨v0, v1, v2, d0, d1, d2, p0, p1, p2, rfl, rfl, rfl, h0, h1, h2⟩ := trodAll_three hA
  obtain ⟨rfl, rfl⟩ := trodVars_none hV
  obtain ⟨ah, al, rfl, rfl, rfl, w0, w1⟩ := open_u128 (hval 0 24 v0 rfl rfl) h0
  obtain ⟨a0, len0, cap0, rfl⟩ := okWide_slice Try.underlying25 (hval 1 25 v1 rfl rfl)
  have k1 := h1
  have lt1 : ∀ x ∈ p1, x.block < W.heap.size := by obtain ⟨m, hm⟩ := k1; exact DataW.trod_lt m _ _ _ hm
  obtain ⟨z1, r1⟩ : ∃ zs, IsRow W a0 len0 cap0 zs := by
    obtain ⟨fuel, hf⟩ := h1
    rcases open_ints Try.underlying25 Try.underlying5 (by kernel_rfl) hf with ⟨hcs, _⟩ | ⟨x, l, c, zs, hcs, _, hl, hm, hz, _, hcell, hwz⟩
    · simp [Value.cells] at hcs
      obtain ⟨rfl, rfl, rfl⟩ := hcs
      exact ⟨[], .inl ⟨rfl, rfl, rfl, rfl⟩⟩
    · simp [Value.cells] at hcs
      obtain ⟨rfl, rfl, rfl⟩ := hcs
      exact ⟨zs, .inr ⟨_, rfl, hl, by simpa using hz, hcell, hwz⟩⟩
  obtain ⟨s, rfl, rfl, rfl, hs⟩ := open_string Try.underlying9 (hval 2 9 v2 rfl rfl) h2
  clear hA0 hval0
  refine (reads_any ah al a0 len0 cap0 z1 s W (word_of_wf w0) (word_of_wf w1) r1).mono fun e W' ⟨he, bel⟩ => ?_
  subst he
  exact ⟨_, rfl, _, _, _, [], _, [], hW', trodAll_mk1 (shut_bool Try.underlying4 _), trodAll_mk3 (shut_u128 w0 w1) (Below.trod laid_out (by kernel_rfl) (of_decide_eq_true (by kernel_rfl)) k1 bel lt1) (shut_string Try.underlying9 hs), rfl, bel.frame _, fun h => by cases h⟩

theorem reads_holds : Rows.U128ReadsSaid :=
  OpenClaim.holds_of_wide 3 Try.f3 rfl rfl rfl rfl rfl rfl rfl ⟨rfl, rfl, rfl, rfl, rfl⟩ rfl rfl rfl rfl rfl (by kernel_rfl) Try.func3 (by kernel_rfl)
    (of_decide_eq_true (by kernel_rfl)) (by unfold Func.isWrapper; first | (rw [if_pos (by decide +kernel)]; kernel_rfl) | (rw [if_neg (by decide +kernel)]; exact ⟨rfl, rfl⟩))
    (fun os started H enc _ => reads_lifted os started H enc)
#print axioms reads_holds
end Go.Proofs.Ytegpcjkdkjdckab
