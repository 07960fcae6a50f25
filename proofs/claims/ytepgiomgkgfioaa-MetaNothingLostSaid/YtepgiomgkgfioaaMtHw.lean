import Derived.Test.YtepgiomgkgfioaaMtRq
import Derived.Test.YtepgiomgkgfioaaMtBl
namespace Go.Proofs.Ytepgiomgkgfioaa
open Go.RowKit
open Num
set_option linter.unusedVariables false
set_option linter.unusedSimpArgs false
set_option maxRecDepth 20000

theorem made_wordsL (n : Nat) (hn : n ≤ 17592186044422) (w : World) : (Instr.makeSlice 31 (.int .i64 (n : Int)) (.int .i64 (n : Int))).run Try.prog w = .ok (.slice (some ⟨w.heap.size, 0, none⟩) n n) (w.alloc (.cells ((List.replicate n 0).map u64v).toArray 57)) := by
  obtain ⟨i0, hi, hz0, hz1, hz2⟩ := info_parts Try.infoU6
  have hr := run_make (P := Try.prog) w 31 57 i0 (.int .u64 0) Try.underlying31 hi hz0 .i64 .i64 (n : Int) (n : Int) (by omega) (by omega) (by rw [hz2]; omega) (by omega)
  simp only [Int.toNat_natCast] at hr
  rw [hz1] at hr
  rw [hr]
  congr 3
  apply Array.ext'
  apply List.ext_getElem?
  intro i
  by_cases h : i < n
  · simp [madeCells, u64v, Value.cells, h, Nat.mod_one]
  · simp [madeCells, u64v, Value.cells, h, Nat.mod_one]
theorem size_u64h : (Try.prog.info? 57).map (·.size) = some 1 := by kernel_rfl
theorem u64v_one (l : List Nat) : ∀ u ∈ l.map u64v, u.oneCell' = true := fun u hu => by
  obtain ⟨x, _, rfl⟩ := List.mem_map.1 hu
  rfl
theorem USl.news {w : World} {ad : Addr} {n cap : Nat} {l : List Nat} (h : USl w (.slice (some ad) n cap) l) : ∀ j u, (l.map u64v)[j]? = some u → w.cell? (ad.add j) = some u := fun j u hu => by
  obtain ⟨a, c, e, _, _, _, hc⟩ := h
  have hj : j < l.length := by
    by_cases hj : j < l.length
    · exact hj
    · rw [List.getElem?_eq_none (by simpa using hj)] at hu; cases hu
  obtain ⟨b, off, e2, _, hc⟩ := hc (by omega)
  simp only [Value.slice.injEq] at e
  rw [e2] at e
  obtain ⟨e, _⟩ := e
  have e := Option.some.inj e
  subst e
  simp [hj] at hu
  subst hu
  have := hc j hj
  have e3 : (⟨b, off, none⟩ : Addr).add j = ⟨b, off + j, none⟩ := by
    unfold Addr.add
    by_cases h0 : j = 0
    · subst h0; simp
    · simp [h0]
  rw [e3]
  simpa [List.getD, hj, u64v] using this
theorem USl.below {w w' : World} {v : Value} {l : List Nat} (h : USl w v l) (hb : Below w.heap.size w w') : USl w' v l := by
  obtain ⟨a, c, e, q1, q2, q3, hc⟩ := h
  exact ⟨a, c, e, q1, q2, q3, fun h0 => by
    obtain ⟨b, off, e2, hl, hc⟩ := hc h0
    exact ⟨b, off, e2, Nat.lt_of_lt_of_le hl hb.size, fun i hi => by rw [World.cell?_of_block (hb.block b hl)]; exact hc i hi⟩⟩
def wmarks : List Nat := [1000, 1001, 1002, 1003, 1004, 1005]
theorem wmarks_at {i : Nat} (h : i < 6) : wmarks.getD i 0 = 1000 + i := by
  match i, h with
  | 0, _ => rfl
  | 1, _ => rfl
  | 2, _ => rfl
  | 3, _ => rfl
  | 4, _ => rfl
  | 5, _ => rfl
/-- words that are handed in, while the marks are laid behind them -/
structure HWI (w wr : World) (l : List Nat) (i : Nat) : Prop where
  hi : i ≤ 6
  be : Below w.heap.size w wr
  row : WRow wr w.heap.size (l ++ (wmarks.take i ++ List.replicate (6 - i) 0))
theorem HWI.next {w wr : World} {l : List Nat} {i : Nat} (h : HWI w wr l i) (hi : i < 6) : HWI w (wr.setCell ⟨w.heap.size, l.length + i, none⟩ (.int .u64 ((1000 + i : Nat) : Int))) l (i + 1) := by
  refine ⟨by omega, h.be.setCell (Nat.le_refl _) _, ?_⟩
  have := h.row.set (i := l.length + i) (x := 1000 + i)
  have e : (l ++ (wmarks.take i ++ List.replicate (6 - i) 0)).set (l.length + i) (1000 + i) = l ++ (wmarks.take (i + 1) ++ List.replicate (6 - (i + 1)) 0) := by
    rw [List.set_append_right _ _ (by omega), Nat.add_sub_cancel_left]
    have := fill_set (ws := wmarks) (i := i) hi
    rw [wmarks_at hi] at this
    exact congrArg _ this
  rw [e] at this
  exact this
theorem run_copyW_zero (g n c : Nat) (a : Option Addr) (w : World) : (Builtin.copy_ #[31, 31] 3 #[.slice (some ⟨g, 0, none⟩) n n, .slice a 0 c]).run Try.prog w = .ok (.int .i64 0) w := by
  obtain ⟨i0, hi, hz0, hz1, hz2⟩ := info_parts Try.infoU6
  cases a <;> simp [Builtin.copy_, run_underlying Try.underlying31, Builtin.lenOf, Builtin.firstCells, sizeOf, typeInfo, hi, hz1, loadCells, loadCellsFrom, storeCells, goInt]
end Go.Proofs.Ytepgiomgkgfioaa
