import Derived.Test.YtijfnacplikibabKLetIn
namespace Go.Proofs.Ytijfnacplikibab
open Go.RowKit
set_option linter.unusedVariables false
set_option linter.unusedSimpArgs false
set_option maxRecDepth 20000

theorem upd_self {α : Type} (f : Nat → α) (k : Nat) : upd f k (f k) = f := by
  funext j
  by_cases h : j = k
  · rw [h, upd_same]
  · rw [upd_other _ _ _ h]
section
variable {x y : World} {p b : Nat} {m : Int} {n : Nat} {V : Nat → Value} {L : Nat → List (Int × Int)} {ws wt : Int} {r p' : Nat} {e o md : Int} {gr : Bool} {tv : Value} {nu : Int}
/-- a claim behind a list, a request beside the table -/
theorem TRep.push0 (h : TRep x p b m n V L ws wt) (q : QRep x r p' e o md gr tv nu) {O : Obj} {v' : Value} {c : Int × Int} {k : Nat} (hk : k < n * 2) (ho : y.ownsRow 0 75 2 v' ((L k).length + 1) (cvs (L k) ++ [.int .i64 c.1, .int .i64 c.2])) (hu : Upon (x.alloc O).drew y (V k) v') :
    TRep (y.setCell ⟨b, k, none⟩ v') p b m n (upd V k v') (upd L k (L k ++ [c])) ws wt ∧ QRep (y.setCell ⟨b, k, none⟩ v') r p' e o md gr tv nu ∧ Tr (fun _ => False) x (y.setCell ⟨b, k, none⟩ v') (TU p b n V) (TU p b n (upd V k v')) ∧ y.cell? ⟨b, k, none⟩ = some (V k) ∧ y.frozen? ⟨b, k, none⟩ = false := by
  have h' : TRep x p b m n (upd V k (V k)) (upd L k (L k)) ws wt := by rw [upd_self, upd_self]; exact h
  obtain ⟨a1, a2, a3, a4⟩ := h'.push hk rfl ho hu
  rw [upd_self] at a2
  have hr := h.rq q
  refine ⟨a1, q.kept (a2.chg.keep r q.lt fun hu => hu.elim hr id), a2, a3, a4⟩
theorem TRep.req (h : TRep x p b m n V L ws wt) (hr : ¬ TU p b n V r) (i : Nat) (v : Value) : TRep (x.setCell ⟨r, i, none⟩ v) p b m n V L ws wt := h.kept fun g hg => Go.heap_setCell_other _ _ _ _ (show g ≠ r from fun e => hr (e ▸ hg))
end
end Go.Proofs.Ytijfnacplikibab
