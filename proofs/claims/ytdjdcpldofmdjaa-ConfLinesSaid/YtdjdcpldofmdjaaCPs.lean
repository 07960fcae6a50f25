import Derived.Test.YtdjdcpldofmdjaaCPu
namespace Go.Proofs.Ytdjdcpldofmdjaa
open Go.RowKit
set_option linter.unusedVariables false
set_option linter.unusedSimpArgs false
set_option maxRecDepth 20000

def putO (vs : List Int) (k : Nat) : Option Int → List Int
  | some x => vs.set k x
  | none => vs
/-- m parts from number k on: the fields, how far the text stood, whether all were whole -/
def pAll (l : List UInt8) : Nat → Nat → Nat → List Int → List Int × Nat × Bool
  | 0, _, at_, vs => (vs, at_, true)
  | m + 1, k, at_, vs => if (pOne k (l.drop at_)).2.1 then pAll l m (k + 1) (at_ + (pOne k (l.drop at_)).1) (putO vs k (pOne k (l.drop at_)).2.2) else (vs, at_ + (pOne k (l.drop at_)).1, false)
theorem pOne_le (k : Nat) (l : List UInt8) : (pOne k l).1 ≤ l.length := by
  unfold pOne
  dsimp only
  have h1 := cp_le_l l (tx (leadsL.getD k ⟨#[]⟩))
  have h2 := cp_le_r l (tx (leadsL.getD k ⟨#[]⟩))
  rw [tx_len] at h2
  split
  · exact h1
  · have hl : (leadsL.getD k ⟨#[]⟩).size ≤ l.length := by omega
    split
    · rename_i ns _
      split
      · rename_i n x hw
        have := chWho_le _ _ hw
        rw [List.length_drop] at this
        show _ + n ≤ _
        omega
      · have := chFar_le ns (l.drop (leadsL.getD k ⟨#[]⟩).size) 0 (Nat.zero_le _)
        rw [List.length_drop] at this
        show _ + _ ≤ _
        omega
    · have := rdN_le (l.drop (leadsL.getD k ⟨#[]⟩).size) 0 0
      rw [List.length_drop] at this
      show _ + _ ≤ _
      omega
theorem left_ints {w w' : World} {p k : Nat} {d : Option Int} {vs : List Int} (h : Left w w' p k d) (hp : Ints w p vs) : Ints w' p (putO vs k d) := by
  cases d with
  | none => exact hp.below h
  | some x => obtain ⟨W, h1, rfl⟩ := h; exact (hp.below h1).set k x
theorem left_ptl {w w' : World} {p k : Nat} {d : Option Int} {vs : List Int} {v : Value} (h : Left w w' p k d) (hp : Ints w p vs) (hl : PtL w v p) : PtL w' v p := by
  cases d with
  | none => exact hl.below h
  | some x => obtain ⟨W, h1, rfl⟩ := h; exact (hl.below h1).set (hp.below h1)
theorem left_blk {w w' : World} {p k b : Nat} {d : Option Int} {o : Obj} (h : Left w w' p k d) (hb : b ≠ p) (ho : w.heap[b]? = some o) : w'.heap[b]? = some o := by
  cases d with
  | none => exact (h.block _ (Array.getElem?_eq_some_iff.1 ho).1).trans ho
  | some x =>
    obtain ⟨W, h1, rfl⟩ := h
    rw [Go.heap_setCell_other _ _ _ _ (by show b ≠ p; exact hb)]
    exact (h1.block _ (Array.getElem?_eq_some_iff.1 ho).1).trans ho
theorem left_bel {w0 w w' : World} {p k : Nat} {d : Option Int} (h : Left w w' p k d) (hb : Below w0.heap.size w0 w) (hp : w0.heap.size ≤ p) : Below w0.heap.size w0 w' := by
  cases d with
  | none => exact hb.trans (Below.mono h hb.size)
  | some x =>
    obtain ⟨W, h1, rfl⟩ := h
    have h2 := hb.trans (h1.mono hb.size)
    exact ⟨h2.os, h2.tape, h2.output, by have := h2.size; simp [World.setCell]; omega, fun c hc => (Go.heap_setCell_other _ _ _ _ (by show c ≠ p; omega)).trans (h2.block c hc)⟩
def zS : List Int := List.replicate 15 0
theorem pAll_go {l : List UInt8} {k at_ : Nat} {vs : List Int} (hk : k < 15) (h : (pOne k (l.drop at_)).2.1 = true) : pAll l (15 - k) k at_ vs = pAll l (15 - (k + 1)) (k + 1) (at_ + (pOne k (l.drop at_)).1) (putO vs k (pOne k (l.drop at_)).2.2) := by
  rw [show 15 - k = (15 - (k + 1)) + 1 by omega, pAll, if_pos h]
theorem pAll_no {l : List UInt8} {k at_ : Nat} {vs : List Int} (hk : k < 15) (h : (pOne k (l.drop at_)).2.1 = false) : pAll l (15 - k) k at_ vs = (vs, at_ + (pOne k (l.drop at_)).1, false) := by
  rw [show 15 - k = (15 - (k + 1)) + 1 by omega, pAll, if_neg (by simp [h])]
theorem putO_len (vs : List Int) (k : Nat) (d : Option Int) : (putO vs k d).length = vs.length := by cases d <;> simp [putO]
/-- between two parts -/
structure PI (w W : World) (N g : Nat) (vs : List Int) : Prop where
  len : vs.length = 15
  ints : Ints W (N + 1) vs
  res : Ints W N zS
  ptl : PtL W (.slice (some ⟨g, 0, none⟩) 15 15) (N + 1)
  bel : Below N w W
theorem PI.left {w W W' : World} {N g k : Nat} {vs : List Int} {d : Option Int} (h : PI w W N g vs) (hN : w.heap.size = N) (hl : Left W W' (N + 1) k d) : PI w W' N g (putO vs k d) := by
  refine ⟨by rw [putO_len]; exact h.len, left_ints hl h.ints, left_blk hl (by omega) h.res, left_ptl hl h.ints h.ptl, ?_⟩
  have := h.bel
  rw [← hN] at this ⊢
  exact left_bel hl this (by omega)
theorem PI.on {w W W' : World} {N g : Nat} {vs : List Int} (h : PI w W N g vs) (hN : N ≤ W.heap.size) (hb : Below W.heap.size W W') : PI w W' N g vs := ⟨h.len, h.ints.below hb, h.res.below hb, h.ptl.below hb, h.bel.trans (hb.mono hN)⟩
end Go.Proofs.Ytdjdcpldofmdjaa
