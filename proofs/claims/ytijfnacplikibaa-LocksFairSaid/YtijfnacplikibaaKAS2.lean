import Derived.Test.YtijfnacplikibaaKAS
namespace Go.Proofs.Ytijfnacplikibaa
open Go.RowKit
set_option linter.unusedVariables false
set_option linter.unusedSimpArgs false
set_option maxRecDepth 20000

section
variable {w x y : World} {p b n : Nat} {V : Nat → Value} {L : LL} {ws wt : Int} {B : Nat}
theorem AS.acquire (h : AS w x p b n V L ws wt B) (hB : B ≤ 7900000000000) (e md o : Int) : Calls Try.prog 12 #[.pointer (some ⟨p, 0, none⟩), .int .i64 e, .int .i64 md, .int .i64 o] x fun e' y => e' = .returned (.tuple #[.bool (acq n L ws wt e o md).gr, .int .i64 (acq n L ws wt e o md).err]) ∧ ∃ V', AS w y p b n V' (acq n L ws wt e o md).L ws (acq n L ws wt e o md).wt (B + 1) ∧ Tr (fun _ => False) x y (TU p b n V) (TU p b n V') := by
  refine (Acquire_any x p b n V L ws wt e md o B h.t h.wf hB).mono ?_
  rintro e' y ⟨rfl, V', hT, hTr⟩
  exact ⟨rfl, V', h.step hT (acq_wf h.wf e o md) (ok_acq h.ok ws wt e o md) hTr fun g h => h.elim, hTr⟩
theorem AS.release (h : AS w x p b n V L ws wt B) (hB : B ≤ 3900000000000) (e o : Int) : Calls Try.prog 16 #[.pointer (some ⟨p, 0, none⟩), .int .i64 e, .int .i64 o] x fun e' y => ∃ v V', e' = .returned (.tuple #[v, .int .i64 (rls n L wt e o).err]) ∧ AS w y p b n V' (rls n L wt e o).L ws (rls n L wt e o).wt B ∧ Tr (fun _ => False) x y (TU p b n V) (TU p b n V') ∧ IRow y v (rls n L wt e o).inn ∧ ∀ g, v.ownBlock = some g → x.heap.size ≤ g := by
  refine (Release_any x p b n V L ws wt e o B h.t h.wf hB).mono ?_
  rintro e' y ⟨v, V', rfl, hTL⟩
  exact ⟨v, V', rfl, h.step hTL.t (rls_wf h.wf e o) (ok_rls h.ok wt e o) hTL.tr fun g h => h.elim, hTL.tr, hTL.i, hTL.nw⟩
theorem AS.drop (h : AS w x p b n V L ws wt B) (hB : B ≤ 3900000000000) (o : Int) : Calls Try.prog 19 #[.pointer (some ⟨p, 0, none⟩), .int .i64 o] x fun e' y => ∃ v V', e' = .returned v ∧ AS w y p b n V' (drp n L wt o n).L ws (drp n L wt o n).wt B ∧ Tr (fun _ => False) x y (TU p b n V) (TU p b n V') ∧ IRow y v (drp n L wt o n).inn ∧ ∀ g, v.ownBlock = some g → x.heap.size ≤ g := by
  refine (Drop_any x p b n V L ws wt o B h.t h.wf hB).mono ?_
  rintro e' y ⟨v, V', rfl, hTL⟩
  exact ⟨v, V', rfl, h.step hTL.t (drp_wf h.wf o n) (ok_drp h.ok wt o n) hTL.tr fun g h => h.elim, hTL.tr, hTL.i, hTL.nw⟩
theorem AS.waiters (h : AS w x p b n V L ws wt B) (hB : B ≤ 7900000000000) {e : Nat} (he : e < n) : Calls Try.prog 13 #[.pointer (some ⟨p, 0, none⟩), .int .i64 (e : Int)] x fun e' y => ∃ v, e' = .returned (.tuple #[v, .int .i64 0]) ∧ AS w y p b n V L ws wt B ∧ Chg (· = p) x y ∧ IRow y v ((L (e * 2 + 1)).map Prod.fst) ∧ ∀ g, v.ownBlock = some g → x.heap.size ≤ g := by
  refine (Waiters_any x p b n V L ws wt e h.t he (by have := h.wf.all (e * 2 + 1); omega)).mono ?_
  rintro e' y ⟨v, rfl, hT, hC, hI, hN⟩
  exact ⟨v, rfl, h.asked hT hC, hC, hI, hN⟩
theorem AS.holders (h : AS w x p b n V L ws wt B) (hB : B ≤ 7900000000000) {e : Nat} (he : e < n) : Calls Try.prog 14 #[.pointer (some ⟨p, 0, none⟩), .int .i64 (e : Int)] x fun e' y => ∃ v, e' = .returned (.tuple #[v, .int .i64 (modeOf (L (e * 2))), .int .i64 0]) ∧ AS w y p b n V L ws wt B ∧ Chg (· = p) x y ∧ IRow y v ((L (e * 2)).map Prod.fst) ∧ ∀ g, v.ownBlock = some g → x.heap.size ≤ g := by
  refine (Holders_any x p b n V L ws wt e h.t he (by have := h.wf.all (e * 2); omega)).mono ?_
  rintro e' y ⟨v, rfl, hT, hC, hI, hN⟩
  exact ⟨v, rfl, h.asked hT hC, hC, hI, hN⟩
theorem AS.waiting (h : AS w x p b n V L ws wt B) : Calls Try.prog 21 #[.pointer (some ⟨p, 0, none⟩)] x fun e' y => e' = .returned (.int .i64 wt) ∧ AS w y p b n V L ws wt B ∧ Chg (· = p) x y := by
  refine (Waiting_any x p b n V L ws wt h.t).mono ?_
  rintro e' y ⟨rfl, hT, hC⟩
  exact ⟨rfl, h.asked hT hC, hC⟩
theorem AS.holds (h : AS w x p b n V L ws wt B) {e : Nat} (he : e < n) (o : Int) : Calls Try.prog 35 #[.pointer (some ⟨p, 0, none⟩), .int .i64 (e : Int), .int .i64 o] x fun e' y => e' = .returned (.bool (has (L (e * 2)) o)) ∧ AS w y p b n V L ws wt B ∧ Chg (· = p) x y := by
  refine (Holds_any x p b n V L ws wt e o h.t he).mono ?_
  rintro e' y ⟨rfl, hT, hC⟩
  exact ⟨rfl, h.asked hT hC, hC⟩
/-- a list of numbers grows -/
theorem AS.app (h : AS w x p b n V L ws wt B) {v v' : Value} {l : List Int} (hv : IRow x v l) (ha : App x y v v') (hlo : ∀ g, v.ownBlock = some g → w.heap.size ≤ g) : AS w y p b n V L ws wt B := by
  have hT : TRep y p b 0 n V L ws wt := h.t.kept fun g hg => ha.chg.keep g (h.t.lt g hg) fun e => by
    obtain ⟨cs, hc⟩ := rowCells hv e
    exact h.t.nt hc (by decide) (by decide) (by decide) hg
  exact h.step hT h.wf h.ok (R := fun g => v.ownBlock = some g) ⟨ha.chg.mono fun g _ e => .inr e, fun g hg => .inl hg⟩ hlo
end
theorem IRow.app {x y : World} {u v v' : Value} {l : List Int} (hu : IRow x u l) (ha : App x y v v') (hne : ∀ g, u.ownBlock = some g → v.ownBlock ≠ some g) : IRow y u l := hu.kept fun g hg => ha.chg.keep g (hu.lt hg) (hne g hg)
end Go.Proofs.Ytijfnacplikibaa
