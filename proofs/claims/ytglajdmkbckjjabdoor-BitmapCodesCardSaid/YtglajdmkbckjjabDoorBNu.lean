import Derived.Test.YtglajdmkbckjjabDoorBWe
import Derived.Test.YtglajdmkbckjjabDoorBSt
import Derived.Test.YtglajdmkbckjjabDoorBRef1
namespace Go.Proofs.YtglajdmkbckjjabDoor
open Go.RowKit
set_option linter.unusedVariables false
set_option linter.unusedSimpArgs false
set_option maxRecDepth 20000

/-- digits that the document appends to: since w0 nothing else has turned -/
structure BS (w0 w : World) (v0 v : Value) (D : List Bool) : Prop where
  own : w.ownsRow 0 4 1 v D.length (D.map Value.bool)
  os : w.os = w0.os
  tape : w.tape = w0.tape
  output : w.output = w0.output
  size : w0.heap.size ≤ w.heap.size
  keep : ∀ b, b < w0.heap.size → v0.ownBlock ≠ some b → w.heap[b]? = w0.heap[b]?
  loc : ∀ b, v.ownBlock = some b → v0.ownBlock = some b ∨ w0.heap.size ≤ b
theorem BS.start {w : World} {v : Value} {D : List Bool} (h : w.ownsRow 0 4 1 v D.length (D.map Value.bool)) : BS w w v v D := ⟨h, rfl, rfl, rfl, Nat.le_refl _, fun _ _ _ => rfl, fun _ e => .inl e⟩
theorem BS.more {w0 w w4 : World} {v0 v v4 : Value} {D : List Bool} {d : Bool} (h : BS w0 w v0 v D) (ho : w4.ownsRow 0 4 1 v4 (D.length + 1) (D.map Value.bool ++ [.bool d])) (hu : Upn (w.alloc (.cells #[.bool d] 4)) w4 v v4) : BS w0 w4 v0 v4 (D ++ [d]) := by
  obtain ⟨s1, s2, s3⟩ := hu.same
  have hs := hu.size
  have hsz : (w.alloc (.cells #[.bool d] 4)).heap.size = w.heap.size + 1 := World.size_alloc ..
  have h1 := h.size
  refine ⟨by rw [List.length_append, List.map_append]; exact ho, s1.trans h.os, s2.trans h.tape, s3.trans h.output, by omega, fun b hb hne => ?_, fun b e => ?_⟩
  · refine ((hu.block b (by omega) fun e => ?_).trans (Below.heap_alloc _ _ _ (by omega))).trans (h.keep b hb hne)
    rcases h.loc b e with e | e
    · exact hne e
    · omega
  · rcases hu.loc b e with e | e
    · exact h.loc b e
    · right; omega
theorem new_bool (w : World) (x : Value) : ∀ j u, [x][j]? = some u → (w.alloc (.cells #[x] 4)).cell? ((⟨w.heap.size, 0, none⟩ : Addr).add j) = some u := fun j u h => by
  have : (w.alloc (.cells #[x] 4)).heap[w.heap.size]? = some (.cells #[x] 4 (0, 0)) := Go.heap_alloc_new _ _
  rw [Addr.add_lit, cell_of_row _ _ _ _ _ _ this]
  simpa using h
theorem infoBl : ∃ i, Tryd.prog.info? 4 = some i ∧ i.zero = some (.bool false) ∧ i.size = 1 ∧ i.bytes = 1 := by
  have h := info_bool
  cases hi : Tryd.prog.info? 4 with
  | none => rw [hi] at h; simp at h
  | some i => rw [hi] at h; simp at h; exact ⟨i, rfl, h.1, h.2.1, h.2.2⟩
theorem gam_alt {x k : Nat} (h1 : 2 ^ k ≤ x) (h2 : x < 2 ^ (k + 1)) : gam x = List.replicate k false ++ gamL (k + 1) x := by
  have hk : x.log2 = k := by
    have h0 : x ≠ 0 := by have := Nat.two_pow_pos k; omega
    refine Nat.le_antisymm ?_ ?_
    · exact Nat.le_of_lt_succ ((Nat.log2_lt h0).2 h2)
    · exact (Nat.le_log2 h0).2 h1
  have hb : x.testBit k = true := by
    rw [Nat.testBit_eq_decide_div_mod_eq]
    have : x / 2 ^ k = 1 := by
      have h3 : x / 2 ^ k < 2 := Nat.div_lt_of_lt_mul (by rw [Nat.pow_succ] at h2; exact h2)
      have h4 : 1 ≤ x / 2 ^ k := (Nat.one_le_div_iff (Nat.two_pow_pos k)).2 h1
      omega
    rw [this]
    rfl
  unfold gam
  rw [hk]
  show _ = List.replicate k false ++ (x.testBit k :: gamL k x)
  rw [hb]
end Go.Proofs.YtglajdmkbckjjabDoor
