/-
  Walks, not a claim by itself: superblock's Format, of a disk without a fuse. By the verifier.
-/
import Derived.Test.YtigpnngjfgbaeaaSKeep
import Derived.Test.YtigpnngjfgbaeaaSFnd
namespace Go.Proofs.Ytigpnngjfgbaeaa
open Go.RowKit Go.Maps
/-- A superblock with another Sequence. -/
def Sup.setq (s : Sup) (v : Int) : Sup := { s with x := upd s.x 0 v }
theorem supC_setq (s : Sup) (v : Int) (a : Option Addr) (C : Nat) : (supC s a C).set 0 (.int .i64 v) = supC (s.setq v) a C := rfl
theorem St.but {w0 W W' : World} {d s m b : Nat} {D : Dsk} (h : St w0 W d s m D) (hB : But b W W') (h1 : d ≠ b) (h2 : s ≠ b) (h3 : m ≠ b) (hb : w0.heap.size ≤ b) : St w0 W' d s m D :=
  ⟨h.at'.off (bs := [b]) (Off.but hB (by simp)) (by simpa using h1) (by simpa using h2) (by simpa using h3), h.hd, h.hs, h.hm, h.bel.trans (hB.below hb h.bel.size)⟩
theorem st_rc {w0 u : World} {d s m : Nat} {D : Dsk} (h : St w0 u d s m D) (hf : D.free) (hn : 8 ≤ D.N) : Calls Try.prog 50 #[.pointer (some ⟨d, 0, none⟩)] u (RcPost u D.sec) := rc_ok u d s m D 0 false h.at' (hf.fuse u 0) hf.up hn
theorem KeptPost.from {w0 W u : World} {d s m : Nat} {D' : Dsk} {e : Ending} {w' : World} (h : KeptPost w0 u d s m D' e w') (hB : Below W.heap.size W u) : KeptPost w0 W d s m D' e w' := by
  obtain ⟨h1, m', h2, h3, h4⟩ := h
  exact ⟨h1, m', h2, h3.imp id (fun q => Nat.le_trans hB.size q), (Off.of hB).trans h4⟩
set_option maxRecDepth 100000 in
set_option maxHeartbeats 400000 in
theorem format_st (w0 W : World) (d s m : Nat) (D : Dsk) (sp : Sup) (a : Option Addr) (C : Nat) (h : St w0 W d s m D) (hf : D.few 100) (hn : 8 ≤ D.N) (hA : HArg W a sp.k sp.h) (hm : (sp.setq 1).May) :
    Calls Try.prog 23 #[.pointer (some ⟨d, 0, none⟩), supV sp a C] W (KeptPost w0 W d s m (D.kept 0 (rep (sp.setq 1).img) 8)) := by
  have SS : Hid (St w0 W d s m D) := h
  have RC : Hid (∀ u, St w0 u d s m D → Calls Try.prog 50 #[.pointer (some ⟨d, 0, none⟩)] u (RcPost u D.sec)) := fun u hu => st_rc hu (hf.free (by decide)) hn
  have BY : Hid (∀ u, Below W.heap.size W u → Calls Try.prog 10 #[.agg (supC (sp.setq 1) a C).toArray] u (ByPost u (sp.setq 1))) := fun u hB => bytes_ok (sp.setq 1) a C u (hA.below hB) hm
  have RP : Hid (∀ u b, Lies u b 0 512 (sp.setq 1).img → Calls Try.prog 48 #[.slice (some ⟨b, 0, none⟩) 512 512, .int .i64 4] u (RepPost u 2048 (sp.setq 1).img)) := fun u b hL => repeat_any b 0 512 4 2048 _ u hL (by omega) rfl (by omega) mul_4
  have KP : Hid (∀ u b, St w0 u d s m D → Lies u b 0 2048 (rep (sp.setq 1).img) → b ≠ s → b ≠ m → Calls Try.prog 49 #[.pointer (some ⟨d, 0, none⟩), .int .i64 0, .slice (some ⟨b, 0, none⟩) 2048 2048] u (KeptPost w0 u d s m (D.kept 0 (rep (sp.setq 1).img) 8))) := fun u b hu hL h1 h2 => keep_st w0 u d s m 0 b 0 8 2048 2048 D _ hu (hf.mono (by decide)) (by omega) rfl hL (by omega) (by omega) (by omega) (by omega) ⟨h1, h2⟩
  have dl := h.at'.dl
  have sl := h.at'.sl
  have ml := h.at'.ml
  have w0W := h.bel.size
  clear h hf hn hA hm
  unfold supV
  go_enter Try.func23, Try.ntmps23
  go_wp2_with (first
    | (refine wpList_box_rec rfl 26 (.tmp 1) rfl (supC sp a C) rfl W.heap.size rfl ?_; intro W0 R0 B0 z0)
    | (go_at_call 50; refine (RC.out _ (SS.out.below B0)).mono ?_; rintro e w1 ⟨g, rfl, _, _, B1⟩
       have R1 := R0.below B1
       have E1 : Below W.heap.size W w1 := B0.trans (B1.mono B0.size)
       obtain ⟨c0, f0⟩ := R1.cel 0 _ rfl
       have R2 : Rec19 (w1.setCell ⟨W.heap.size, 0, none⟩ (.int .i64 1)) W.heap.size 0 (supC (sp.setq 1) a C) := R1.put 0 (.int .i64 1)
       have E2 : Below W.heap.size W (w1.setCell ⟨W.heap.size, 0, none⟩ (.int .i64 1)) := E1.setCell (Nat.le_refl _) _
       clear R0 B0 z0 B1)
    | (refine wpList_load_rec rfl 26 (.tmp 3) rfl W.heap.size 0 (supC (sp.setq 1) a C) rfl _ Try.underlying26 rfl (by kernel_rfl) R2 ?_)
    | (go_at_call 10; refine (BY.out _ E2).mono ?_; rintro e w3 ⟨g3, rfl, hg3, L3, B3⟩
       have E3 : Below W.heap.size W w3 := E2.trans (B3.mono E2.size)
       have L3' := L3.lies (fun j hj => Sup.img_byte _ j hj)
       clear R2 L3 B3)
    | (go_at_call 48; refine (RP.out _ g3 L3').mono ?_; rintro e w4 ⟨g4, rfl, hg4, L4, B4⟩
       have E4 : Below W.heap.size W w4 := E3.trans (B4.mono E3.size)
       have S4 : St w0 w4 d s m D := SS.out.below E4
       have n1 : g4 ≠ s := by have := E3.size; omega
       have n2 : g4 ≠ m := by have := E3.size; omega)
    | (go_at_call 49; refine (KP.out _ g4 S4 L4 n1 n2).mono ?_; rintro e w5 h5; have P5 : Hid (KeptPost w0 W d s m (D.kept 0 (rep (sp.setq 1).img) 8) e w5) := h5.from E4; obtain ⟨rfl, _⟩ := h5))
  go_ret
  exact P5.out
end Go.Proofs.Ytigpnngjfgbaeaa
