/-
  Plain notions and laws, not a claim by itself: sectors that are written one behind the other. By the verifier.
-/
import Derived.Test.YtfapmogjmjlokaaDThree
import Derived.Test.YtfapmogjmjlokaaDLoosen
import Derived.Test.YtfapmogjmjlokaaDChunk
import Derived.Laws.Cover3
namespace Go.Proofs.Ytfapmogjmjlokaa
open Go.RowKit Go.Maps
/-- A whole sector is stored. -/
theorem irow_put {W : World} {s N i : Nat} {F : Nat → Int} (g : Nat → Int) (h : IRow W s .u8 (N * 256) F) (hi : i < N) :
    ∃ W2, (Instr.storeAt 95 (.pointer (some ⟨s, i * 256, none⟩)) (secV g)).run Try.prog W = .ok () W2 ∧ IRow W2 s .u8 (N * 256) (putF F i g) ∧ But s W W2 := by
  have ht : W.there s (i * 256) (cl .u8 256 g).toArray.size := by
    intro j hj
    have hj' : j < 256 := by simpa [cl_len] using hj
    exact ⟨by rw [h.1 _ (by omega)]; rfl, h.2.1 _⟩
  refine ⟨_, run_storeAt_mid (P := Try.prog) W s (i * 256) 95 (cl .u8 256 g).toArray ht (by simp only [List.size_toArray, cl_len]; kernel_rfl) (all_oneCell_toArray (cl_one _ _ _)), ⟨fun j hj => ?_, fun j => by rw [World.frozen?_setCells]; exact h.2.1 j, Nat.lt_of_lt_of_le h.2.2 (But.cells _ _ _).size⟩, But.cells _ _ _⟩
  by_cases e : j / 256 = i
  · have hr := World.rangeAt_setCells_same W s (i * 256) (cl .u8 256 g) (by simpa using ht) (j % 256) _ (cl_at .u8 256 g (j % 256) (by omega))
    rw [show i * 256 + j % 256 = j by omega] at hr
    unfold putF
    rw [if_pos e]
    exact hr
  · unfold putF
    rw [if_neg e, World.cell?_setCells_out s _ _ _ _ (fun _ _ => by simp only [cl_len]; omega)]
    exact h.1 j hj
/-- A disk of which sector i is written as g. -/
def Dsk.step (D : Dsk) (i : Nat) (g : Nat → Int) : Dsk := { D.loosen i with sec := putF D.sec i g }
theorem DiskAt.stepped {W W2 : World} {d s m i : Nat} {D : Dsk} {g : Nat → Int} (h : DiskAt W d s m (D.loosen i)) (hr : IRow W2 s .u8 (D.N * 256) (putF D.sec i g)) (hB : But s W W2) (hg : ∀ j, j < 256 → 0 ≤ g j ∧ g j < 256) : DiskAt W2 d s m (D.step i g) := by
  have O : Off [s] W W2 := Off.but hB (by simp)
  have hN : (D.step i g).N = D.N := rfl
  refine { recd := h.recd.off O (by have := h.ds; simp; omega), row := hr, map := h.map.off O (by have := h.sm; simp; omega), sb := fun j hj => ?_, obb := h.obb, n1 := h.n1, n2 := h.n2, ds := h.ds, dm := h.dm, sm := h.sm }
  show 0 ≤ putF D.sec i g j ∧ putF D.sec i g j < 256
  unfold putF
  split
  · exact hg _ (by omega)
  · exact h.sb j hj
/-- A disk of which k sectors from a on are written as F has them. -/
def Dsk.wrote (D : Dsk) (a : Nat) (F : Nat → Int) : Nat → Dsk
  | 0 => D
  | k + 1 => (D.wrote a F k).step (a + k) (fun j => F (k * 256 + j))
theorem Dsk.wrote_N (D : Dsk) (a : Nat) (F : Nat → Int) : ∀ k, (D.wrote a F k).N = D.N
  | 0 => rfl
  | k + 1 => D.wrote_N a F k
theorem Dsk.wrote_fz (D : Dsk) (a : Nat) (F : Nat → Int) : ∀ k, (D.wrote a F k).fz = D.fz
  | 0 => rfl
  | k + 1 => D.wrote_fz a F k
theorem Dsk.wrote_ops (D : Dsk) (a : Nat) (F : Nat → Int) : ∀ k, (D.wrote a F k).ops = D.ops
  | 0 => rfl
  | k + 1 => D.wrote_ops a F k
/-- .. of which pieces in whatever order are written. -/
def wrP {c : Nat} (D : Dsk) (a : Nat) (F : Nat → Int) (pre : List (Fin c)) : Nat × Dsk := pre.foldl (fun p x => (p.1 + 1, p.2.step p.1 (fun j => F (x.1 * 256 + j)))) (a, D)
theorem wrP_snoc {c : Nat} (D : Dsk) (a : Nat) (F : Nat → Int) (pre : List (Fin c)) (x : Fin c) : wrP D a F (pre ++ [x]) = ((wrP D a F pre).1 + 1, (wrP D a F pre).2.step (wrP D a F pre).1 (fun j => F (x.1 * 256 + j))) := by
  unfold wrP
  rw [List.foldl_append]
  rfl
theorem wrP_one {c : Nat} (F : Nat → Int) : ∀ (pre : List (Fin c)) (D : Dsk) (a : Nat), (wrP D a F pre).1 = a + pre.length ∧ (wrP D a F pre).2.N = D.N
  | [], _, _ => ⟨rfl, rfl⟩
  | x :: pre, D, a => by
    have ih := wrP_one F pre (D.step a (fun j => F (x.1 * 256 + j))) (a + 1)
    refine ⟨?_, ih.2⟩
    show (wrP (D.step a (fun j => F (x.1 * 256 + j))) (a + 1) F pre).1 = a + (pre.length + 1)
    rw [ih.1]
    omega
theorem wrP_all {c : Nat} (D : Dsk) (a : Nat) (F : Nat → Int) : ∀ k, k ≤ c → (wrP D a F (upTo c k)).2 = D.wrote a F k
  | 0, _ => rfl
  | k + 1, hk => by
    rw [upTo_succ c k (by omega), wrP_snoc]
    show (wrP D a F (upTo c k)).2.step (wrP D a F (upTo c k)).1 _ = (D.wrote a F k).step (a + k) _
    rw [wrP_all D a F k (by omega), (wrP_one F (upTo c k) D a).1, upTo_length c k (by omega)]
theorem store_skip {a : Act} {w : World} {o : Oper} (t : TypeId) (x v : Operand) (hop : o.op = .store t x v) (X V : Value) (hx : a.eval x = X) (hv : a.eval v = V) {w' : World} (hr : (Instr.storeAt t X V).run Try.prog w = .ok () w') :
    (execOp a.eval o).run Try.prog w = .ok .skip w' := by
  simp [execOp, hop, hx, hv, hr, Result.andThen]
theorem arr_run {a : Act} {w : World} {o : Oper} (x : Operand) (hop : o.op = .sliceToArrayPointer 95 x) (A : Option Addr) (C : Nat) (hx : a.eval x = .slice A 256 C) :
    (execOp a.eval o).run Try.prog w = .ok (.value (.pointer A)) w := by
  have h := run_arrayAt (P := Try.prog) w 95 5 256 A 256 C Try.underlying95 (Nat.le_refl _)
  simp [execOp, hop, hx, h, Result.andThen]
end Go.Proofs.Ytfapmogjmjlokaa
