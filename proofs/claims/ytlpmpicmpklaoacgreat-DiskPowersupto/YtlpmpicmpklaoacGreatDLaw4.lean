import Derived.Test.YtlpmpicmpklaoacGreatDLaw3
namespace Go.Proofs.YtlpmpicmpklaoacGreat
open Go.RowKit Go.Maps
set_option linter.unusedVariables false
set_option linter.unusedSimpArgs false
set_option maxRecDepth 20000

/-- a write that may be made -/
structure PutV where
  block : Int
  tv : Value
  tl : List Nat
  past : Bool
def PutV.val (p : PutV) : Value := .agg #[.int .i64 p.block, p.tv, .bool p.past]
/-- its block -/
def PutV.at_ (p : PutV) (nb : Nat) : Nat := (p.block % (nb : Int)).toNat
/-- its bytes -/
def PutV.bs (p : PutV) (sz : Nat) : List Nat := p.tl.take sz ++ zeros (sz - p.tl.length)

theorem emod_of_tmod (b : Int) {n : Int} (hn : 0 < n) : b % n = if Int.tmod b n < 0 then Int.tmod b n + n else Int.tmod b n := by
  have h1 := Int.tmod_lt_of_pos b hn
  have h2 := Int.lt_tmod_of_pos b hn
  have h3 : b = n * Int.tdiv b n + Int.tmod b n := (Int.mul_tdiv_add_tmod b n).symm
  have h4 : b % n = Int.tmod b n % n := by
    conv => lhs; rw [h3]
    rw [Int.add_comm, Int.add_mul_emod_self_left]
  rw [h4]
  split
  · have h5 : (Int.tmod b n + n) % n = Int.tmod b n % n := by simp
    rw [← h5]
    exact Int.emod_eq_of_lt (by omega) (by omega)
  · exact Int.emod_eq_of_lt (by omega) (by omega)

theorem PutV.at_lt (p : PutV) {nb : Nat} (h : 1 ≤ nb) : p.at_ nb < nb := by
  unfold PutV.at_
  have h1 := Int.emod_nonneg p.block (show (nb : Int) ≠ 0 by omega)
  have h2 := Int.emod_lt_of_pos p.block (show (0 : Int) < nb by omega)
  omega

theorem bytesStep {t : List Nat} {sz i : Nat} (hi : i < sz) (ht : i < t.length) : (((t.take i ++ zeros (sz - i)).map byteV).toArray).setIfInBounds i (.int .u8 (t.getD i 0 : Nat)) = ((t.take (i + 1) ++ zeros (sz - (i + 1))).map byteV).toArray := by
  have e1 : sz - i = (sz - (i + 1)) + 1 := by omega
  have e2 : zeros (sz - i) = 0 :: zeros (sz - (i + 1)) := by rw [e1]; rfl
  have e3 : t.take (i + 1) = t.take i ++ [t.getD i 0] := by rw [List.take_add_one, getD_get 0 ht]; rfl
  rw [e2, e3]
  simp only [List.map_append, List.map_cons, List.map_nil, List.setIfInBounds_toArray]
  congr 1
  have hl : ((t.take i).map byteV).length = i := by simp; omega
  rw [List.set_append_right _ _ (by omega), hl, Nat.sub_self, List.set_cons_zero, List.append_assoc]
  rfl

end Go.Proofs.YtlpmpicmpklaoacGreat
