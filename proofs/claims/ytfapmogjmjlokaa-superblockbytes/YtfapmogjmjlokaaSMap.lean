/-
  Plain notions and laws, not a claim by itself: a map with copies as keys; an entry that is made and stored. By the verifier.
-/
import Derived.Test.YtfapmogjmjlokaaSBest
import Derived.Test.YtfapmogjmjlokaaDBase
import Derived.DeepKeys4
import Derived.WideKeyEntry
namespace Go.Proofs.Ytfapmogjmjlokaa
open Go.RowKit Go.Maps
/-- A copy's bytes as Go has them. -/
def imgV (f : Nat → Int) : Value := .agg (cl .u8 512 f).toArray
theorem laid_out : laidOutB Try.prog = true := by kernel_rfl
theorem row_img : (85 : TypeId) < Try.prog.types.size := of_decide_eq_true (by kernel_rfl)
theorem wide_img : (match Try.prog.underlying 85 with | some (.array _ _) | some (.struct _) => true | _ => false) = true := by kernel_rfl
set_option maxRecDepth 100000 in
theorem law_img : WideMaps.KeyLaw Try.prog 85 := deep_law_laid laid_out (m := 3) (by omega) row_img (by kernel_rfl) wide_img
theorem keyed_img : Keyed Try.prog 85 := Keyed.of_law law_img
theorem keytype_img : Try.prog.keyType 85 = true := by kernel_rfl
theorem cells_img : Try.prog.cellsOf 85 = 512 := by kernel_rfl
theorem cells_u8 : Try.prog.cellsOf 5 = 1 := by kernel_rfl
/-- The key of a copy. -/
def keyL (f : Nat → Int) : Lit := .string (keyBytes ((List.range 512).map fun j => .int .u8 (f j)))
theorem wf_u8 (x : Int) (h : 0 ≤ x ∧ x < 256) : (Lit.int .u8 x).wf = true := by
  simp [Lit.wf, IntKind.min, IntKind.max, IntKind.signed, IntKind.bits]
  omega
theorem mapM_some {α β : Type} (g : α → Option β) (h : α → β) : ∀ l : List α, (∀ x, x ∈ l → g x = some (h x)) → l.mapM g = some (l.map h)
  | [], _ => rfl
  | x :: l, hx => by
    rw [List.mapM_cons, hx x (by simp), mapM_some g h l (fun y hy => hx y (by simp [hy]))]
    rfl
theorem lits_u8 (d : Nat) (x : Int) (h : 0 ≤ x ∧ x < 256) : Try.prog.keyLits (d + 1) 5 [.int .u8 x] = some [.int .u8 x] := by
  unfold Program.keyLits
  rw [Try.underlying5]
  simp only
  rw [if_pos ⟨trivial, wf_u8 x h⟩]
set_option maxRecDepth 100000 in
theorem lits_img (d : Nat) (f : Nat → Int) (hf : ∀ j, j < 512 → 0 ≤ f j ∧ f j < 256) : Try.prog.keyLits (d + 2) 85 (cl .u8 512 f) = some ((List.range 512).map fun j => .int .u8 (f j)) := by
  unfold Program.keyLits
  rw [Try.underlying85]
  simp only
  rw [if_pos (by rw [cl_len, cells_img]), cells_u8]
  rw [mapM_some _ (fun i => [Lit.int .u8 (f i)])]
  · rw [Option.map_some]
    congr 1
  · intro i hi
    have hi' := List.mem_range.1 hi
    have e : ((cl .u8 512 f).drop (i * 1)).take 1 = [.int .u8 (f i)] := by
      rw [Nat.mul_one]
      refine List.ext_getElem? fun j => ?_
      rw [List.getElem?_take, List.getElem?_drop]
      by_cases h : j < 1
      · obtain rfl : j = 0 := by omega
        rw [if_pos h, Nat.add_zero, cl_at _ _ _ _ hi']
        rfl
      · rw [if_neg h, List.getElem?_eq_none (by simp; omega)]
    rw [e]
    exact lits_u8 d (f i) (hf i hi')
set_option maxRecDepth 100000 in
theorem key_img (f : Nat → Int) (hf : ∀ j, j < 512 → 0 ≤ f j ∧ f j < 256) : keyOf Try.prog 85 (imgV f) = some (keyL f) := by
  have hfo : (imgV f).formed Try.prog 85 = true := by
    unfold imgV
    simp only [Value.formed, Try.underlying85, cells_img, List.size_toArray, cl_len]
    rfl
  obtain ⟨d, hd⟩ : ∃ d, Try.prog.types.size + 1 = d + 2 := ⟨Try.prog.types.size - 1, by have : 0 < Try.prog.types.size := Nat.lt_of_le_of_lt (Nat.zero_le _) row_img; omega⟩
  unfold keyOf
  rw [Try.underlying85]
  simp only
  rw [keytype_img, hfo, hd]
  simp only [Bool.and_self, if_true]
  rw [show (imgV f).cells.toList = cl .u8 512 f from rfl, lits_img d f hf]
  rfl
set_option maxRecDepth 100000 in
theorem keyL_congr {f g : Nat → Int} (h : ∀ j, j < 512 → f j = g j) : keyL f = keyL g := by
  unfold keyL
  rw [List.map_congr_left (g := fun j => Lit.int .u8 (g j)) fun j hj => by rw [h j (List.mem_range.1 hj)]]
set_option maxRecDepth 100000 in
theorem keyL_inj {f g : Nat → Int} (hf : ∀ j, j < 512 → 0 ≤ f j ∧ f j < 256) (hg : ∀ j, j < 512 → 0 ≤ g j ∧ g j < 256) (h : keyL f = keyL g) (j : Nat) (hj : j < 512) : f j = g j := by
  have h1 := key_img f hf
  have h2 := key_img g hg
  rw [← h] at h2
  have e := keyed_img.inj h1 h2
  unfold imgV at e
  injection e with e
  have e2 : (cl .u8 512 f) = (cl .u8 512 g) := by
    have := congrArg Array.toList e
    simpa using this
  have a := cl_at .u8 512 f j hj
  rw [e2, cl_at .u8 512 g j hj] at a
  injection a with a
  injection a with _ a
  exact a.symm
theorem idx_of_key {l : List MapEntry} (hn : (l.map (·.key)).Nodup) {i j : Nat} {a b : MapEntry} (hi : l[i]? = some a) (hj : l[j]? = some b) (h : a.key = b.key) : i = j := by
  have li : i < (l.map (·.key)).length := by rw [List.length_map]; exact (List.getElem?_eq_some_iff.1 hi).1
  refine (List.getElem?_inj li hn).1 ?_
  rw [List.getElem?_map, List.getElem?_map, hi, hj]
  simp [h]
open Go.WideElems Go.MapKept Go.ChangeMaps in
/-- A key that is there is put again. -/
theorem update_at {P : Program} {u : World} {t k e : TypeId} {b : Nat} {es : Array MapEntry} {clock : Nat} (K : Keyed P k) (ht : P.underlying t = some (.map k e)) (hb : u.heap[b]? = some (.map es clock)) (hn : (es.toList.map (·.key)).Nodup) (hks : ∀ x ∈ es.toList, ∃ l, keyOf P k x.key = some l)
    {key : Value} {kl : Lit} (hkey : keyOf P k key = some kl) {j : Nat} {e0 : MapEntry} (hj : es.toList[j]? = some e0) (he : e0.key = key) (val : Value) :
    (Instr.mapUpdate t (.map (some b)) key val).run P u = .ok () (setBlock u b (.map (es.modify j fun e' => { e' with key := key, val := val }) clock)) := by
  rcases K.find u hkey es.toList hks with ⟨h1, h2⟩ | ⟨i, e1, h1, h2, h3⟩
  · exact absurd he (h2 e0 (List.mem_of_getElem? hj))
  · obtain rfl : i = j := idx_of_key hn h2 hj (h3.trans he.symm)
    have hi : es[i]? = some e1 := by simpa using h2
    simp [Instr.mapUpdate, run_underlying ht, MapKept.run_getObj_map hb, K.check u false hkey, h1, hi, h3, K.stays u hkey, MapKept.run_setObj_map _ hb, Result.andThen, setBlock]
open Go.WideElems Go.MapKept Go.ChangeMaps in
/-- An entry that is asked for, and then stored: as if each had been put. -/
theorem entry_law {H : Type} {P : Program} {w : World} {t k e : TypeId} {R : Value → Option (DataW H × List MemPlace)} {b n : Nat} {D : DataW H} (K : Keyed P k) (ht : P.underlying t = some (.map k e)) {z : Value} (hz : ∀ u : World, (zeroValue e).run P u = .ok z u)
    (h : w.ownsMap P k R b n D) {key : Value} {kl : Lit} (hkey : keyOf P k key = some kl) :
    ∃ (v0 : Value) (st : Nat) (w1 : World), (Instr.mapEntry t (.map (some b)) key).run P w = .ok (.tuple #[v0, goInt st]) w1 ∧ (Instr.lookup t (.map (some b)) key false).run P w = .ok v0 w ∧ (Instr.mapUpdate t (.map (some b)) key v0).run P w = .ok () w1 ∧
      ∀ val, ∃ w3, (Instr.entryStore t (.map (some b)) (goInt st) val).run P w1 = .ok () w3 ∧ (Instr.mapUpdate t (.map (some b)) key val).run P w1 = .ok () w3 := by
  obtain ⟨es, clock, hb, F, _, rfl⟩ := h
  obtain ⟨s1, s2, s3⟩ := F.stamped
  rcases K.find w hkey es.toList F.keys with ⟨h1, h2⟩ | ⟨j, e0, h1, h2, h3⟩
  · refine ⟨z, clock, setBlock w b (.map (es.push ⟨key, z, clock⟩) (clock + 1)), ?_, ?_, ?_, fun val => ?_⟩
    · simp [Instr.mapEntry, run_underlying ht, MapKept.run_getObj_map hb, K.check w false hkey, h1, hz, MapKept.run_setObj_map _ hb, Result.andThen, setBlock]
    · simp [Instr.lookup, run_underlying ht, MapKept.run_getObj_map hb, K.check w _ hkey, h1, hz, Result.andThen]
    · simp [Instr.mapUpdate, run_underlying ht, MapKept.run_getObj_map hb, K.check w false hkey, h1, MapKept.run_setObj_map _ hb, Result.andThen, setBlock]
    · have hb1 : (setBlock w b (.map (es.push ⟨key, z, clock⟩) (clock + 1))).heap[b]? = some (.map (es.push ⟨key, z, clock⟩) (clock + 1)) := heap_setBlock_same hb _
      have hn : ((es.push ⟨key, z, clock⟩).toList.map (·.key)).Nodup := by
        rw [Array.toList_push, List.map_append]
        refine List.nodup_append.2 ⟨s3, by simp, fun a ha c hc e1 => ?_⟩
        obtain ⟨x, hx, rfl⟩ := List.mem_map.1 ha
        simp at hc
        exact h2 x hx (e1.trans hc)
      have hks : ∀ x ∈ (es.push ⟨key, z, clock⟩).toList, ∃ l, keyOf P k x.key = some l := fun x hx => by
        rw [Array.toList_push] at hx
        rcases List.mem_append.1 hx with q | q
        · exact F.keys x q
        · simp at q; rw [q]; exact ⟨kl, hkey⟩
      have hj : (es.push ⟨key, z, clock⟩).toList[es.size]? = some ⟨key, z, clock⟩ := by simp
      refine ⟨_, ?_, update_at K ht hb1 hn hks hkey hj rfl val⟩
      have hidx : (es.push ⟨key, z, clock⟩).findIdx? (fun e => ((e.born : Nat) : Int) == ((clock : Nat) : Int)) = some es.size := by
        rw [findIdx_arr]
        refine findIdx_born (l := (es.push ⟨key, z, clock⟩).toList) (j := es.size) (e0 := ⟨key, z, clock⟩) ?_ hj
        simp only [Array.toList_push, List.map_append, List.map_cons, List.map_nil]
        refine List.nodup_append.2 ⟨s2, by simp, fun a ha c hc e1 => ?_⟩
        simp only [List.mem_singleton] at hc
        obtain ⟨x, hx, rfl⟩ := List.mem_map.1 ha
        have := s1 x hx
        omega
      have hmod : (es.push ⟨key, z, clock⟩).modify es.size (fun e => { e with val := val }) = (es.push ⟨key, z, clock⟩).modify es.size (fun e => { e with key := key, val := val }) := by
        apply Array.ext'
        rw [Array.toList_modify, Array.toList_modify, modify_eq_set _ _ _ _ hj, modify_eq_set _ _ _ _ hj]
      generalize setBlock w b (.map (es.push ⟨key, z, clock⟩) (clock + 1)) = w1 at hb1 ⊢
      simp [Instr.entryStore, MapKept.run_getObj_map hb1, asInt, asIntOf, goInt, hidx, hmod, MapKept.run_setObj_map _ hb1, Result.andThen, setBlock]
  · have hj : es[j]? = some e0 := by simpa using h2
    have hsame : es.modify j (fun e => { e with key := key }) = es := by
      apply Array.ext'
      rw [Array.toList_modify, modify_eq_set _ _ _ _ h2]
      have : ({ e0 with key := key } : MapEntry) = e0 := by rw [← h3]
      rw [this]
      exact set_self _ _ _ h2
    have hsame2 : es.modify j (fun e => { e with key := key, val := e0.val }) = es := by
      apply Array.ext'
      rw [Array.toList_modify, modify_eq_set _ _ _ _ h2]
      have : ({ e0 with key := key, val := e0.val } : MapEntry) = e0 := by rw [← h3]
      rw [this]
      exact set_self _ _ _ h2
    have hb1 : (setBlock w b (.map es clock)).heap[b]? = some (.map es clock) := heap_setBlock_same hb _
    refine ⟨e0.val, e0.born, setBlock w b (.map es clock), ?_, ?_, ?_, fun val => ?_⟩
    · simp [Instr.mapEntry, run_underlying ht, MapKept.run_getObj_map hb, K.check w false hkey, h1, hj, h3, K.stays w hkey, hsame, MapKept.run_setObj_map _ hb, Result.andThen, setBlock]
    · simp [Instr.lookup, run_underlying ht, MapKept.run_getObj_map hb, K.check w _ hkey, h1, Result.andThen]
    · have := update_at K ht hb s3 F.keys hkey h2 h3 e0.val
      rw [hsame2] at this
      exact this
    · refine ⟨_, ?_, update_at K ht hb1 s3 F.keys hkey h2 h3 val⟩
      have hidx : es.findIdx? (fun e => ((e.born : Nat) : Int) == ((e0.born : Nat) : Int)) = some j := by
        rw [findIdx_arr]
        exact findIdx_born s2 h2
      have hmod : es.modify j (fun e => { e with val := val }) = es.modify j (fun e' => { e' with key := key, val := val }) := by
        apply Array.ext'
        rw [Array.toList_modify, Array.toList_modify, modify_eq_set _ _ _ _ h2, modify_eq_set _ _ _ _ h2, ← h3]
      generalize setBlock w b (.map es clock) = w1 at hb1 ⊢
      simp [Instr.entryStore, MapKept.run_getObj_map hb1, asInt, asIntOf, goInt, hidx, hmod, MapKept.run_setObj_map _ hb1, Result.andThen, setBlock]
end Go.Proofs.Ytfapmogjmjlokaa
