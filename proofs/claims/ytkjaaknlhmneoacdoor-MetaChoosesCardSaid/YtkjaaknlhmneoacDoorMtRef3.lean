import Derived.Test.YtkjaaknlhmneoacDoorMtRef2
namespace Go.Proofs.YtkjaaknlhmneoacDoor
open Go.RowKit Go.Lib
set_option linter.unusedVariables false
set_option linter.unusedSimpArgs false
set_option maxRecDepth 20000

/-- the letters and the first fields' bytes, as the document lays them -/
def preF (s : Sup) : Nat → List Nat
  | 0 => lets
  | f + 1 => preF s f ++ bW ((fls s).getD f 0) (wid f) (wid f)
theorem preF_len (s : Sup) : ∀ f, (preF s f).length = plc f
  | 0 => rfl
  | f + 1 => by rw [preF, List.length_append, preF_len s f, bW_len, plc]
theorem preF_all (s : Sup) : preF s 10 = s.fld := by
  simp [preF, fls, wid, Sup.fld, cat, Sup.ints, Sup.gens]
/-- a field's bytes when the t lowest are laid -/
def inn (V n t : Nat) : List Nat := List.replicate (n - t) 0 ++ (bW V n n).drop (n - t)
theorem inn_zero (V n : Nat) : inn V n 0 = List.replicate n 0 := by
  rw [inn, Nat.sub_zero, List.drop_eq_nil_of_le (by rw [bW_len]; exact Nat.le_refl _), List.append_nil]
theorem inn_full (V n : Nat) : inn V n n = bW V n n := by simp [inn]
theorem inn_len {V n t : Nat} (ht : t ≤ n) : (inn V n t).length = n := by simp [inn, bW_len]
theorem bW_get {V n i : Nat} (hi : i < n) : (bW V n n)[i]'(by rw [bW_len]; exact hi) = V / 2 ^ (8 * (n - 1 - i)) % 256 := by simp [bW]
theorem inn_step {V n t : Nat} (ht : t < n) : (inn V n t).set (n - 1 - t) (V / 2 ^ (8 * t) % 256) = inn V n (t + 1) := by
  unfold inn
  have h1 : n - t = (n - (t + 1)) + 1 := by omega
  have h2 : (bW V n n).drop (n - (t + 1)) = (V / 2 ^ (8 * t) % 256) :: (bW V n n).drop (n - t) := by
    rw [List.drop_eq_getElem_cons (by rw [bW_len]; omega), bW_get (by omega), show n - 1 - (n - (t + 1)) = t by omega, show n - (t + 1) + 1 = n - t by omega]
  rw [h2, show List.replicate (n - t) 0 = List.replicate (n - (t + 1)) 0 ++ [0] by rw [h1, List.replicate_succ']]
  rw [List.append_assoc, List.set_append_right _ _ (by simp; omega)]
  simp only [List.length_replicate]
  rw [show n - 1 - t - (n - (t + 1)) = 0 by omega]
  rfl
/-- the letters' loop -/
theorem lets_step {N j : Nat} (hj : j < 8) (hN : 8 ≤ N) : (lets.take j ++ List.replicate (N - j) 0).set j (lets.getD j 0) = lets.take (j + 1) ++ List.replicate (N - (j + 1)) 0 := by
  have hl : (lets.take j).length = j := by simp [lets]; omega
  have hj' : j < lets.length := by simp [lets]; omega
  rw [List.set_append_right _ _ (by omega), hl, Nat.sub_self, show N - j = (N - (j + 1)) + 1 by omega, List.replicate_succ, List.set_cons_zero, List.take_succ_eq_append_getElem hj', List.append_assoc]
  simp [List.getD, hj']
end Go.Proofs.YtkjaaknlhmneoacDoor
