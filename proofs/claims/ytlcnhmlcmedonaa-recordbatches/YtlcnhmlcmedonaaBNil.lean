/-
  Walks, not a claim by itself: what record.ReadTransfers answers at no bytes. By the verifier.
-/
import Derived.Test.YtlcnhmlcmedonaaChunk
import Derived.Laws.MakeOwn
import Derived.RangeFuncBox
import Derived.Maps.AppendAt
namespace Go.Proofs.Ytlcnhmlcmedonaa
open Go.RowKit Go.Shelf
attribute [local go_sem] Oper.semAt_some

theorem make_none (w : World) : ∃ cs, (Instr.makeSlice 40 (.int .i64 0) (.int .i64 0)).run Try.prog w = .ok (.slice (some ⟨w.heap.size, 0, none⟩) 0 0) (w.alloc (.cells cs 30)) := by
  have hi : ((Try.prog.info? 30).map fun i => (i.zero.isSome, i.bytes)) = some (true, 128) := by kernel_rfl
  obtain ⟨i, hi, hj⟩ := Option.map_eq_some_iff.1 hi
  simp only [Prod.mk.injEq] at hj
  obtain ⟨hz, hb⟩ := hj
  obtain ⟨z, hz⟩ := Option.isSome_iff_exists.1 hz
  exact ⟨_, run_make (P := Try.prog) w 40 30 i z Try.underlying40 hi hz .i64 .i64 0 0 (by decide) (by decide) (by rw [hb]; decide) (by decide)⟩

set_option maxRecDepth 100000 in
set_option maxHeartbeats 2000000 in
theorem readBatchT_nil (w : World) :
    Calls Try.prog 42 #[.slice none 0 0, .func (.func 43) #[] #[]] w fun e w' => ∃ b, e = .returned (.tuple #[.slice (some ⟨b, 0, none⟩) 0 0, .int .i64 0]) ∧ Below w.heap.size w w' := by
  refine (callsIn_wide (n := 3)).1 ?_
  obtain ⟨cs, hmk⟩ := make_none (w.alloc (.cells #[.func (.func 43) #[] #[]] 73))
  refine callsIn_of_wp_marks Try.func42 rfl trivial ?_ rfl
  simp only [Try.ntmps42, List.size_toArray, List.length_cons, List.length_nil, Nat.reduceAdd, Nat.reduceSub, Array.replicate_succ, Array.replicate_zero, List.push_toArray, List.append_toArray, List.nil_append, List.cons_append]
  gi_wp2
  refine ⟨trivial, ?_⟩
  refine (chunk_in Fence.wide 2 trivial rfl _ _ _ _).mono ?_
  rintro e w' ⟨rfl, rfl⟩
  gi_wp2
  have bO : Boxed (((w.alloc (.cells #[.func (.func 43) #[] #[]] 73)).alloc (.cells cs 30)).alloc (.cells #[.slice (some ⟨w.heap.size + 1, 0, none⟩) 0 0] 40)) (w.heap.size + 1 + 1) 40 (.slice (some ⟨w.heap.size + 1, 0, none⟩) 0 0) := by
    have := Boxed.new ((w.alloc (.cells #[.func (.func 43) #[] #[]] 73)).alloc (.cells cs 30)) 40 (.slice (some ⟨w.heap.size + 1, 0, none⟩) 0 0)
    rw [World.size_alloc, World.size_alloc] at this
    exact this
  have hB0 : Below w.heap.size w (((w.alloc (.cells #[.func (.func 43) #[] #[]] 73)).alloc (.cells cs 30)).alloc (.cells #[.slice (some ⟨w.heap.size + 1, 0, none⟩) 0 0] 40)) := (((Below.refl _ _).alloc (Nat.le_refl _) _).alloc (by simp) _).alloc (by simp; omega) _
  have hz0 : (((w.alloc (.cells #[.func (.func 43) #[] #[]] 73)).alloc (.cells cs 30)).alloc (.cells #[.slice (some ⟨w.heap.size + 1, 0, none⟩) 0 0] 40)).heap.size = w.heap.size + 1 + 1 + 1 := by simp
  generalize ((w.alloc (.cells #[.func (.func 43) #[] #[]] 73)).alloc (.cells cs 30)).alloc (.cells #[.slice (some ⟨w.heap.size + 1, 0, none⟩) 0 0] 40) = W0 at bO hB0 hz0 ⊢
  have bN := (Boxed.new W0 31 (.slice none 0 0)).alloc (.cells #[.int .i64 128] 3)
  rw [hz0] at bN
  have hB1 : Below w.heap.size w ((W0.alloc (.cells #[.slice none 0 0] 31)).alloc (.cells #[.int .i64 128] 3)) := (hB0.alloc (by omega) _).alloc (by simp; omega) _
  refine wpIn_rangeFunc_ownF rfl (by decide) (gf := 55) (lb := #[.pointer (some ⟨w.heap.size + 1 + 1 + 1, 0, none⟩), .pointer (some ⟨w.heap.size + 1 + 1 + 1 + 1, 0, none⟩)]) rfl trivial (enters_of Try.func55 (by kernel_rfl) rfl)
    (chunk_stops_nil Fence.wide 2 trivial rfl (w.heap.size + 1 + 1 + 1) (w.heap.size + 1 + 1 + 1 + 1) w.heap.size 0 none _ (by simp; omega) bN.cell) belowK_t (belowK_b (by simp; omega)) (Below.refl _ _) (fun _ => rfl)
    (fun _ W => W.cell? ⟨w.heap.size + 1 + 1, 0, none⟩ = some (.slice (some ⟨w.heap.size + 1, 0, none⟩) 0 0) ∧ Below w.heap.size w W)
    (fun _ _ _ => False)
    (OwnFrom.and (Own.from (fun s A B row hs hg hr => cell_kept hs hg hr) _) (ownFrom_below (Nat.le_refl _) (by simp; omega)))
    (fun _ _ _ _ _ hs _ _ => hs)
    ⟨((bO.alloc _).alloc _).cell, hB1⟩
    (fun _ => { tmps := #[.slice none 0 0, .func (.func 43) #[] #[], undef, .pointer (some ⟨w.heap.size, 0, none⟩), .slice none 0 0, .int .i64 0, .int .i64 0, .pointer (some ⟨w.heap.size + 1 + 1, 0, none⟩), .slice none 0 0, .slice none 0 0, .int .i64 0, .int .i64 0, .bool false, .slice none 0 0, .int .i64 0, .int .i64 0, .int .i64 0, .bool false, .int .i64 0, .slice (some ⟨w.heap.size + 1, 0, none⟩) 0 0, .slice none 0 0, .func (.func 55) #[] #[.pointer (some ⟨w.heap.size + 1 + 1 + 1, 0, none⟩), .pointer (some ⟨w.heap.size + 1 + 1 + 1 + 1, 0, none⟩)], .slice none 0 0, undef, undef, undef, undef, undef, undef, undef], defers := [] }) ?assign ?body ?done ?stop
  case assign =>
    intro l x W K hK
    gi_wp2
    exact hK
  case body =>
    intro l pre x W _ h
    exact absurd h (Nat.not_lt_zero _)
  case done =>
    rintro D ys W hD rfl ⟨hc, hB⟩ hK
    gi_wp2
    refine ⟨by simp, .inl ⟨_, _, rfl, run_takeDeferred hK, ?_⟩⟩
    refine ⟨.tuple #[.slice (some ⟨w.heap.size + 1, 0, none⟩) 0 0, .int .i64 0], by simp [results, Try.results42], _, rfl, ?_⟩
    exact hB.trans (belowK_b (w := w) (Nat.le_refl _) W D _ _ (by simp at hD; omega) hK rfl rfl)
  case stop =>
    rintro D c pre W _ _ h _
    exact h.elim
theorem readTransfers_nil (w : World) :
    Calls Try.prog 22 #[.slice none 0 0] w fun e w' => ∃ b, e = .returned (.tuple #[.slice (some ⟨b, 0, none⟩) 0 0, .int .i64 0]) ∧ Below w.heap.size w w' := by
  go_enter Try.func22, Try.ntmps22
  go_wp2_with fail
  refine (readBatchT_nil _).mono ?_
  rintro e w1 ⟨b, rfl, hb⟩
  go_wp2_with fail
  exact bodyPost_ret (v := .tuple #[.slice (some ⟨b, 0, none⟩) 0 0, .int .i64 0]) (by simp [results, Try.results22]) rfl ⟨b, rfl, hb⟩
end Go.Proofs.Ytlcnhmlcmedonaa
