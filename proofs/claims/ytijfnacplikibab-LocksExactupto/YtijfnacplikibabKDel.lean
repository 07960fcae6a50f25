import Derived.Test.YtijfnacplikibabKTab
import Derived.Lib.SliceRun
import Derived.Lib.SlicesDelete
import Derived.Deep.RegionLaw
namespace Go.Proofs.Ytijfnacplikibab
open Go.RowKit
set_option linter.unusedVariables false
set_option linter.unusedSimpArgs false
set_option maxRecDepth 20000

theorem setCells_heap (g : Nat) (t : TypeId) (fz : Nat × Nat) : ∀ (vs : List Value) (o : Nat) (w : World) (cur : Array Value), w.heap[g]? = some (.cells cur t fz) → o + vs.length ≤ cur.size → ∃ cur', (w.setCells g o vs).heap[g]? = some (.cells cur' t fz) ∧ cur'.size = cur.size ∧ (∀ k, k < o → cur'[k]? = cur[k]?) ∧ (∀ j, j < vs.length → cur'[o + j]? = vs[j]?) ∧ (w.setCells g o vs).heap.size = w.heap.size ∧ (w.setCells g o vs).os = w.os ∧ (w.setCells g o vs).tape = w.tape ∧ (w.setCells g o vs).output = w.output ∧ ∀ b, b ≠ g → (w.setCells g o vs).heap[b]? = w.heap[b]?
  | [], o, w, cur, hg, _ => ⟨cur, hg, rfl, fun _ _ => rfl, fun j hj => by simp at hj, rfl, rfl, rfl, rfl, fun _ _ => rfl⟩
  | v :: r, o, w, cur, hg, hl => by
    have h1 : (w.setCell ⟨g, o, none⟩ v).heap[g]? = some (.cells (cur.setIfInBounds o v) t fz) := by
      simp [World.setCell, Array.getElem?_modify, hg]
    have hl' : o + (r.length + 1) ≤ cur.size := by simpa using hl
    obtain ⟨cur', a1, a2, a3, a4, a5, a6, a7, a8, a9⟩ := setCells_heap g t fz r (o + 1) (w.setCell ⟨g, o, none⟩ v) (cur.setIfInBounds o v) h1 (by simp; omega)
    refine ⟨cur', a1, by simpa using a2, fun k hk => ?_, fun j hj => ?_, by rw [World.setCells, a5, World.size_setCell], a6, a7, a8, fun b hb => (a9 b hb).trans (Go.heap_setCell_other _ _ _ _ (by exact hb))⟩
    · rw [a3 k (by omega), Array.getElem?_setIfInBounds_ne (by omega)]
    · cases j with
      | zero => rw [Nat.add_zero, a3 o (by omega), Array.getElem?_setIfInBounds_self_of_lt (by omega)]; rfl
      | succ j => rw [show o + (j + 1) = o + 1 + j by omega, a4 j (by simpa using hj)]; rfl
theorem Try.infoC : (Try.prog.info? 75).map (fun i => (i.zero, i.size, i.bytes)) = some (some (.agg #[.int .i64 0, .int .i64 0]), 2, 16) := by kernel_rfl
theorem infoCl : ∃ i, Try.prog.info? 75 = some i ∧ i.zero = some (.agg #[.int .i64 0, .int .i64 0]) ∧ i.size = 2 ∧ i.bytes = 16 := by
  have h := Try.infoC
  cases hi : Try.prog.info? 75 with
  | none => rw [hi] at h; simp at h
  | some i => rw [hi] at h; simp at h; exact ⟨i, rfl, h.1, h.2.1, h.2.2⟩
def zs2 (n : Nat) : List Value := (Builtin.zeroCells (Value.agg #[.int .i64 0, .int .i64 0]).cells n).toList
theorem zs2_len (n : Nat) : (zs2 n).length = n * 2 := by simp [zs2, Builtin.zeroCells, Value.cells]
theorem zs2_one (n : Nat) : ∀ v ∈ zs2 n, v.oneCell' = true := by
  intro v hv
  obtain ⟨k, hk, e⟩ := List.mem_iff_getElem.1 hv
  have h2 : k % 2 = 0 ∨ k % 2 = 1 := by omega
  subst e
  rcases h2 with h2 | h2 <;> simp [zs2, Builtin.zeroCells, Value.cells, h2, Value.oneCell']
theorem run_clear2 (w : World) (ty : TypeId) (g o n c : Nat) (hn : 0 < n) (cur : Array Value) (hg : w.heap[g]? = some (.cells cur 75 (0, 0))) (hc : o + n * 2 ≤ cur.size) :
    (Builtin.clear_ #[87] ty #[.slice (some ⟨g, o, none⟩) n c]).run Try.prog w = .ok (.tuple #[]) (w.setCells g o (zs2 n)) := by
  have hst := run_storeCells_cells (P := Try.prog) g o (zs2 n) 0 w (fun j hj => by rw [zs2_len] at hj; rw [cell_of_row _ _ _ _ _ _ hg, Array.getElem?_eq_getElem (by omega)]; rfl) (fun j hj => frozen_of_row _ _ _ _ 75 hg) (zs2_one n)
  simp only [Nat.add_zero] at hst
  obtain ⟨m, rfl⟩ : ∃ m, n = m + 1 := ⟨n - 1, by omega⟩
  unfold zs2 at *
  simp [Builtin.clear_, run_underlying Try.underlying87, Try.zeroValue75, hst]
/-- claims i to j taken out -/
theorem del_row {w : World} {g n cap i j : Nat} {l : List (Int × Int)} (h : CRow w (.slice (some ⟨g, 0, none⟩) n cap) l) (hn : n = l.length) (hij : i < j) (hj : j ≤ n) : ∃ cur, w.heap[g]? = some (.cells cur 75 (0, 0)) ∧ cur.size = cap * 2 ∧ n ≤ cap ∧ cap ≤ maxLen ∧
    ∃ c1, (w.drew.setCells g (i * 2) (cvs (l.drop j))).heap[g]? = some (.cells c1 75 (0, 0)) ∧ c1.size = cap * 2 ∧
    CRow ((w.drew.setCells g (i * 2) (cvs (l.drop j))).setCells g ((i + (n - j)) * 2) (zs2 (j - i))) (.slice (some ⟨g, 0, none⟩) (i + (n - j)) cap) (l.take i ++ l.drop j) ∧ Chg (· = g) w ((w.drew.setCells g (i * 2) (cvs (l.drop j))).setCells g ((i + (n - j)) * 2) (zs2 (j - i))) := by
  subst hn
  have h' : w.ownsRow 0 75 2 (.slice (some ⟨g, 0, none⟩) l.length cap) l.length (cvs l) := h
  rcases h'.2 with ⟨e, _⟩ | ⟨g', cap', cur, e, _, hg, q1, q2, q3, q4⟩
  · simp at e
  · simp only [Value.slice.injEq, Option.some.injEq, Addr.mk.injEq] at e
    obtain ⟨⟨rfl, -, -⟩, -, rfl⟩ := e
    have hl := cvs_length (l.drop j)
    have hz := zs2_len (j - i)
    rw [List.length_drop] at hl
    obtain ⟨c1, a1, a2, a3, a4, a5, a6, a7, a8, a9⟩ := setCells_heap g 75 (0, 0) (cvs (l.drop j)) (i * 2) w.drew cur hg (by rw [hl, q3]; omega)
    obtain ⟨c2, b1, b2, b3, b4, b5, b6, b7, b8, b9⟩ := setCells_heap g 75 (0, 0) (zs2 (j - i)) ((i + (l.length - j)) * 2) _ c1 a1 (by rw [hz, a2, q3]; omega)
    refine ⟨cur, hg, q3, q1, q2, c1, a1, by rw [a2, q3], ?_, ⟨b6.trans a6, b7.trans a7, b8.trans a8, by rw [b5, a5]; exact Nat.le_refl _, fun b hb hne => (b9 b hne).trans (a9 b hne)⟩⟩
    have hlen : (l.take i ++ l.drop j).length = i + (l.length - j) := by rw [List.length_append, List.length_take, List.length_drop]; omega
    unfold CRow
    rw [hlen]
    refine ⟨by rw [cvs_length, hlen], .inr ⟨g, cap, c2, rfl, Nat.zero_le _, b1, by omega, q2, by rw [b2, a2, q3], ?_⟩⟩
    apply List.ext_getElem?
    intro k
    by_cases hk : k < (i + (l.length - j)) * 2
    · rw [List.getElem?_take_of_lt hk, Array.getElem?_toList, b3 k hk, cvs_append]
      have hti : (cvs (l.take i)).length = i * 2 := by rw [cvs_length, List.length_take]; omega
      by_cases hk2 : k < i * 2
      · rw [a3 k hk2, List.getElem?_append_left (by omega), ← cvs_take, List.getElem?_take_of_lt hk2, ← q4, List.getElem?_take_of_lt (by omega), Array.getElem?_toList]
      · rw [List.getElem?_append_right (by omega), hti, show k = i * 2 + (k - i * 2) by omega, a4 (k - i * 2) (by omega)]
        congr 1
        omega
    · rw [List.getElem?_eq_none (by rw [List.length_take]; omega), List.getElem?_eq_none (by rw [cvs_length, hlen]; omega)]
end Go.Proofs.Ytijfnacplikibab
