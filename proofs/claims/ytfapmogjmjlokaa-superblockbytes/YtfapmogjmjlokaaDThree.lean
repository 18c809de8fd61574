/-
  Walks, not a claim by itself: Flush. By the verifier.
-/
import Derived.Test.YtfapmogjmjlokaaDTwo
namespace Go.Proofs.Ytfapmogjmjlokaa
open Go.RowKit Go.Maps
theorem DiskAt.bump {W : World} {d s m : Nat} {D : Dsk} (h : DiskAt W d s m D) : DiskAt (W.setCell ⟨d, 3, none⟩ (.int .i64 (D.ops + 1))) d s m D.more := by
  have O : Off [d] W (W.setCell ⟨d, 3, none⟩ (.int .i64 (D.ops + 1))) := Off.set _ _ _ (by simp)
  exact { h with recd := h.recd.put 3 (.int .i64 (D.ops + 1)), row := h.row.off O (by have := h.ds; simp; omega), map := h.map.off O (by have := h.dm; simp; omega) }
/-- A disk's fuse lies apart from the disk. -/
def FzOk (D : Dsk) (d s m : Nat) : Prop := ∀ q, D.fz = some q → q ≠ d ∧ q ≠ s ∧ q ≠ m
theorem DiskAt.past {W W' : World} {d s m : Nat} {D : Dsk} (h : DiskAt W d s m D) (hB : Off D.fz.toList W W') (hq : FzOk D d s m) : DiskAt W' d s m D := by
  have k : ∀ x, x ∈ D.fz.toList → x ≠ d ∧ x ≠ s ∧ x ≠ m := fun x hx => by
    cases e : D.fz with
    | none => rw [e] at hx; simp at hx
    | some q => rw [e] at hx; simp at hx; subst hx; exact hq _ e
  exact h.off hB (fun x => (k _ x).1 rfl) (fun x => (k _ x).2.1 rfl) (fun x => (k _ x).2.2 rfl)
theorem fz_mem {fz : Option Nat} {x : Nat} (h : x ∈ fz.toList) : fz = some x := by
  cases fz with
  | none => simp at h
  | some q => simp at h; rw [h]
theorem flush1_ok (W : World) (d s m B : Nat) (D : Dsk) (h : DiskAt W d s m D) (hb : W.cell? ⟨B, 0, none⟩ = some (.pointer (some ⟨d, 0, none⟩))) : Calls Try.prog 79 #[.pointer (some ⟨B, 0, none⟩)] W fun e w' => e = .returned (.tuple #[]) ∧ DiskAt w' d s W.heap.size D.safe ∧ Off [d] W w' := by
  have HD : Hid (DiskAt W d s m D) := h
  clear h
  go_enter Try.func79, Try.ntmps79
  go_wp2_with (go_at_call 80; refine (settle_ok _ d s m D HD.out).mono ?_; rintro e w1 ⟨rfl, h1, h2⟩)
  go_end0
  exact ⟨rfl, h1, h2⟩
/-- What a change that is done leaves. -/
def DonePost (W : World) (d s : Nat) (D D' : Dsk) (l : Int) (o : Bool) (bs : List Nat) (e : Ending) (w' : World) : Prop := e = .returned (.int .i64 0) ∧ ∃ m', (m' ∈ bs ∨ W.heap.size ≤ m') ∧ DiskAt w' d s m' D' ∧ FuseIs w' D.fz (fzLeft D.fz l) o ∧ Off (bs ++ D.fz.toList) W w'
/-- What a change that the fuse does not let by leaves. -/
def BlowPost (W : World) (d s m : Nat) (D : Dsk) (l : Int) (e : Ending) (w' : World) : Prop := e = .returned (.int .i64 11) ∧ DiskAt w' d s m D ∧ FuseIs w' D.fz l true ∧ Off D.fz.toList W w'
theorem fzOut_pass {fz : Option Nat} {l : Int} {o : Bool} (h : fzPass fz l = true) : fzOut fz l o = o := by
  unfold fzPass at h
  unfold fzOut
  cases fz with
  | none => simp
  | some q => simp at h; simp [h]
theorem fzOut_stop {fz : Option Nat} {l : Int} {o : Bool} (h : fzPass fz l = false) : fzOut fz l o = true ∧ fzLeft fz l = l := by
  unfold fzPass at h
  unfold fzOut fzLeft
  cases fz with
  | none => simp at h
  | some q => simp at h; simp [h]
theorem stop_post {W w1 : World} {d s m : Nat} {D : Dsk} {l : Int} {o : Bool} (h : DiskAt W d s m D) (hq : FzOk D d s m) (hp : fzPass D.fz l = false) (h1 : FuseIs w1 D.fz (fzLeft D.fz l) (fzOut D.fz l o)) (h2 : Off D.fz.toList W w1) : BlowPost W d s m D l (.returned (.int .i64 11)) w1 := by
  obtain ⟨a, b⟩ := fzOut_stop (o := o) hp
  rw [a, b] at h1
  exact ⟨rfl, h.past h2 hq, h1, h2⟩
theorem changeF_blow (W : World) (d s m B : Nat) (D : Dsk) (l : Int) (o : Bool) (h : DiskAt W d s m D) (hf : FuseIs W D.fz l o) (hq : FzOk D d s m) (hp : fzPass D.fz l = false) :
    Calls Try.prog 75 #[.pointer (some ⟨d, 0, none⟩), .func (.func 79) #[] #[.pointer (some ⟨B, 0, none⟩)]] W (BlowPost W d s m D l) := by
  obtain ⟨c4, _⟩ := h.recd.cel 4 _ rfl
  have SP : Hid (∀ w1, FuseIs w1 D.fz (fzLeft D.fz l) (fzOut D.fz l o) → Off D.fz.toList W w1 → BlowPost W d s m D l (.returned (.int .i64 11)) w1) := fun w1 h1 h2 => stop_post h hq hp h1 h2
  have HF : Hid (FuseIs W D.fz l o) := hf
  have HP : Hid (fzPass D.fz l = false) := hp
  clear h hf hq hp
  go_enter Try.func75, Try.ntmps75
  go_wp2_with (go_at_call 88; refine (pass_any _ D.fz l o HF.out).mono ?_; rintro e w1 ⟨rfl, h1, h2⟩; rw [HP.out]; have PP : Hid (BlowPost W d s m D l (.returned (.int .i64 11)) w1) := SP.out w1 h1 h2; clear h1 h2)
  go_ret
  exact PP.out
theorem changeF_ok (W : World) (d s m B : Nat) (D : Dsk) (l : Int) (o : Bool) (h : DiskAt W d s m D) (hf : FuseIs W D.fz l o) (hq : FzOk D d s m) (hp : fzPass D.fz l = true)
    (hb : W.cell? ⟨B, 0, none⟩ = some (.pointer (some ⟨d, 0, none⟩))) (hB : B < W.heap.size) (hBq : ∀ q, D.fz = some q → q ≠ B) (ho : 0 ≤ D.ops ∧ D.ops ≤ 1000000) :
    Calls Try.prog 75 #[.pointer (some ⟨d, 0, none⟩), .func (.func 79) #[] #[.pointer (some ⟨B, 0, none⟩)]] W (DonePost W d s D D.safe.more l o [d]) := by
  obtain ⟨c4, _⟩ := h.recd.cel 4 _ rfl
  have HD : Hid (DiskAt W d s m D) := h
  have HQ : Hid (FzOk D d s m) := hq
  have HF : Hid (FuseIs W D.fz l o) := hf
  have HP : Hid (fzPass D.fz l = true) := hp
  have HB : Hid (∀ w1, Off D.fz.toList W w1 → w1.cell? ⟨B, 0, none⟩ = some (.pointer (some ⟨d, 0, none⟩))) := fun w1 h1 => (h1.cell (p := ⟨B, 0, none⟩) hB (fun q => hBq _ (fz_mem q) rfl)).trans hb
  have w1' : wrap64 (D.ops + 1) = D.ops + 1 := by unfold wrap64; omega
  have w2' : IntKind.i64.wrap (D.ops + 1) = D.ops + 1 := by rw [IntKind.wrap_i64]; omega
  clear h hf hq hp hb
  go_enter Try.func75, Try.ntmps75
  go_wp2_with (first
    | (go_at_call 88; refine (pass_any _ D.fz l o HF.out).mono ?_; rintro e w1 ⟨rfl, h1, h2⟩; rw [HP.out]; rw [fzOut_pass HP.out] at h1
       have F1 : Hid (FuseIs w1 D.fz (fzLeft D.fz l) o) := h1
       have O1 : Hid (Off D.fz.toList W w1) := h2
       clear h1 h2)
    | (go_at_call 79; refine (flush1_ok _ d s m B D (HD.out.past O1.out HQ.out) (HB.out _ O1.out)).mono ?_; rintro e w2 ⟨rfl, h1, h2⟩
       obtain ⟨c3, f3⟩ := h1.recd.cel 3 _ rfl
       have c3' : w2.cell? ⟨d, 3, none⟩ = some (.int .i64 D.ops) := c3
       have PP : Hid (DonePost W d s D D.safe.more l o [d] (.returned (.int .i64 0)) (w2.setCell ⟨d, 3, none⟩ (.int .i64 (D.ops + 1)))) := by
         have O3 : Off [d] w1 (w2.setCell ⟨d, 3, none⟩ (.int .i64 (D.ops + 1))) := h2.trans (Off.set _ _ _ (by simp))
         exact ⟨rfl, w1.heap.size, .inr O1.out.size, h1.bump, F1.out.off O3 (fun q hq => by simp; exact (HQ.out q hq).1), (O1.out.mono (fun _ q => List.mem_append_right _ q)).trans (O3.mono (fun _ q => List.mem_append_left _ q))⟩
       clear h1 h2 c3 O1 F1))
  go_ret
  exact PP.out
theorem flush_down (W : World) (d s m : Nat) (D : Dsk) (l : Int) (o : Bool) (h : DiskAt W d s m D) (hf : FuseIs W D.fz l o) (hu : D.up o = false) :
    Calls Try.prog 63 #[.pointer (some ⟨d, 0, none⟩)] W fun e w' => e = .returned (.int .i64 11) ∧ Below W.heap.size W w' := by
  have B0 : Below W.heap.size W (W.alloc (.cells #[.pointer (some ⟨d, 0, none⟩)] 42)) := (Below.refl _ _).alloc (Nat.le_refl _) _
  have HD : Hid (DiskAt (W.alloc (.cells #[.pointer (some ⟨d, 0, none⟩)] 42)) d s m D) := h.below B0
  have HF : Hid (FuseIs (W.alloc (.cells #[.pointer (some ⟨d, 0, none⟩)] 42)) D.fz l o) := hf.below B0
  have BB : Hid (Below W.heap.size W (W.alloc (.cells #[.pointer (some ⟨d, 0, none⟩)] 42))) := B0
  have HU : Hid (D.up o = false) := hu
  clear h hf hu B0
  go_enter Try.func63, Try.ntmps63
  go_wp2_with (go_at_call 52; refine (ready_ok _ d s m D l o HD.out HF.out).mono ?_; rintro e w1 ⟨rfl, rfl⟩; rw [HU.out, if_neg (by simp)])
  go_ret
  exact ⟨rfl, BB.out⟩
theorem flush_blow (W : World) (d s m : Nat) (D : Dsk) (l : Int) (o : Bool) (h : DiskAt W d s m D) (hf : FuseIs W D.fz l o) (hq : FzOk D d s m) (hu : D.up o = true) (hp : fzPass D.fz l = false) :
    Calls Try.prog 63 #[.pointer (some ⟨d, 0, none⟩)] W (BlowPost W d s m D l) := by
  have B0 : Below W.heap.size W (W.alloc (.cells #[.pointer (some ⟨d, 0, none⟩)] 42)) := (Below.refl _ _).alloc (Nat.le_refl _) _
  have HD : Hid (DiskAt (W.alloc (.cells #[.pointer (some ⟨d, 0, none⟩)] 42)) d s m D) := h.below B0
  have HF : Hid (FuseIs (W.alloc (.cells #[.pointer (some ⟨d, 0, none⟩)] 42)) D.fz l o) := hf.below B0
  have HU : Hid (D.up o = true) := hu
  clear h hf hu B0
  go_enter Try.func63, Try.ntmps63
  go_wp2_with (first
    | (go_at_call 52; refine (ready_ok _ d s m D l o HD.out HF.out).mono ?_; rintro e w1 ⟨rfl, rfl⟩; rw [HU.out, if_pos rfl])
    | (go_at_call 75; refine (changeF_blow _ d s m W.heap.size D l o HD.out HF.out hq hp).mono ?_; rintro e w2 ⟨rfl, h1, h2, h3⟩
       have PP : Hid (BlowPost W d s m D l (.returned (.int .i64 11)) w2) := ⟨rfl, h1, h2, ((Off.refl _ W).alloc _).trans h3⟩
       clear h1 h2 h3))
  go_ret
  exact PP.out
theorem flush_ok (W : World) (d s m : Nat) (D : Dsk) (l : Int) (o : Bool) (h : DiskAt W d s m D) (hf : FuseIs W D.fz l o) (hq : FzOk D d s m) (hu : D.up o = true) (hp : fzPass D.fz l = true) (hql : ∀ q, D.fz = some q → q < W.heap.size) (ho : 0 ≤ D.ops ∧ D.ops ≤ 1000000) :
    Calls Try.prog 63 #[.pointer (some ⟨d, 0, none⟩)] W (DonePost W d s D D.safe.more l o [d]) := by
  have B0 : Below W.heap.size W (W.alloc (.cells #[.pointer (some ⟨d, 0, none⟩)] 42)) := (Below.refl _ _).alloc (Nat.le_refl _) _
  have HD : Hid (DiskAt (W.alloc (.cells #[.pointer (some ⟨d, 0, none⟩)] 42)) d s m D) := h.below B0
  have HF : Hid (FuseIs (W.alloc (.cells #[.pointer (some ⟨d, 0, none⟩)] 42)) D.fz l o) := hf.below B0
  have HU : Hid (D.up o = true) := hu
  clear h hf hu B0
  go_enter Try.func63, Try.ntmps63
  go_wp2_with (first
    | (go_at_call 52; refine (ready_ok _ d s m D l o HD.out HF.out).mono ?_; rintro e w1 ⟨rfl, rfl⟩; rw [HU.out, if_pos rfl])
    | (go_at_call 75; refine (changeF_ok _ d s m W.heap.size D l o HD.out HF.out hq hp (by simp [go_sem]) (by simp) (fun q e => by have := hql q e; omega) ho).mono ?_; rintro e w2 ⟨rfl, m', h0, h1, h2, h3⟩
       have PP : Hid (DonePost W d s D D.safe.more l o [d] (.returned (.int .i64 0)) w2) := ⟨rfl, m', h0.imp id (fun q => by simp at q; omega), h1, h2, ((Off.refl _ W).alloc _).trans h3⟩
       clear h0 h1 h2 h3))
  go_ret
  exact PP.out
end Go.Proofs.Ytfapmogjmjlokaa
