import Derived.Test.YtlpmpicmpklaoabDNew2
namespace Go.Proofs.Ytlpmpicmpklaoab
open Go.RowKit Go.Maps
set_option linter.unusedVariables false
set_option linter.unusedSimpArgs false
set_option maxRecDepth 20000

/-- the bytes of one block of an image -/
def cutOf (m : List Nat) (sz i : Nat) : List Nat := (m.drop (i * sz)).take sz
theorem cut_len {m : List Nat} {nb sz i : Nat} (h : m.length = nb * sz) (hi : i < nb) : (cutOf m sz i).length = sz := by
  unfold cutOf
  rw [List.length_take, List.length_drop, h]
  have : (i + 1) * sz ≤ nb * sz := Nat.mul_le_mul_right _ hi
  rw [Nat.succ_mul] at this
  omega
theorem cut_get {m : List Nat} {nb sz i j : Nat} (h : m.length = nb * sz) (hi : i < nb) (hj : j < sz) : (cutOf m sz i).getD j 0 = m.getD (i * sz + j) 0 := by
  unfold cutOf
  simp only [List.getD, List.getElem?_take, if_pos hj, List.getElem?_drop]
theorem BSl.cut {w : World} {a : Option Addr} {n cap nb sz i : Nat} {m : List Nat} (h : BSl w (.slice a n cap) m) (hm : m.length = nb * sz) (hi : i < nb) (hs : 0 < sz) :
    ∃ b off, a = some ⟨b, off, none⟩ ∧ n = nb * sz ∧ n ≤ cap ∧ cap ≤ maxLen ∧ BSl w (.slice (some ⟨b, off + i * sz, none⟩) sz (cap - i * sz)) (cutOf m sz i) := by
  obtain ⟨a', cap', e, h1, h2, h3, h4, h5⟩ := h
  simp only [Value.slice.injEq] at e
  obtain ⟨rfl, rfl, rfl⟩ := e
  have hle : (i + 1) * sz ≤ nb * sz := Nat.mul_le_mul_right _ hi
  rw [Nat.succ_mul] at hle
  obtain ⟨b, off, rfl, hc⟩ := h5 (by omega)
  have hl := cut_len hm hi
  refine ⟨b, off, rfl, hm, h1, h2, ⟨some ⟨b, off + i * sz, none⟩, cap - i * sz, by rw [hl], by rw [hl]; omega, by omega, by simp, fun x hx => h4 x ?_, fun _ => ⟨b, off + i * sz, rfl, fun j hj => ?_⟩⟩⟩
  · exact List.mem_of_mem_drop (List.mem_of_mem_take hx)
  · rw [hl] at hj
    rw [cut_get hm hi hj, Nat.add_assoc]
    exact hc (i * sz + j) (by omega)

structure LInv (w wr : World) (nb sz i : Nat) (m : List Nat) : Prop where
  hi : i ≤ nb
  row : wr.heap[w.heap.size]? = some (.cells (midRow nb i fun j => sl (w.heap.size + 1 + j) sz) 24 (0, 0))
  pc : ∀ j, j < i → PieceAt wr (w.heap.size + 1 + j) (cutOf m sz j)
  be : Below w.heap.size w wr
  sz : wr.heap.size = w.heap.size + 1 + i

end Go.Proofs.Ytlpmpicmpklaoab
