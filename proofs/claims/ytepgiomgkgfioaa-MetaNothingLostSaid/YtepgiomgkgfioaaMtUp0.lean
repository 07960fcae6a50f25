import Derived.Test.YtepgiomgkgfioaaMtPk
namespace Go.Proofs.Ytepgiomgkgfioaa
open Go.RowKit
open Num
set_option linter.unusedVariables false
set_option linter.unusedSimpArgs false
set_option maxRecDepth 20000

/-- the number that k bytes say, the lowest first -/
def lev (l : List Nat) : Nat → Nat
  | 0 => 0
  | k + 1 => lev l k + l.getD k 0 * 2 ^ (8 * k)
theorem lev_lt {l : List Nat} (hb : ∀ i, l.getD i 0 < 256) : ∀ k, lev l k < 2 ^ (8 * k)
  | 0 => by simp [lev]
  | k + 1 => by
    have ih := lev_lt hb k
    have h := hb k
    rw [lev, show 8 * (k + 1) = 8 * k + 8 by omega, Nat.pow_add]
    have h2 := Nat.mul_le_mul_right (2 ^ (8 * k)) (show l.getD k 0 ≤ 255 by omega)
    have : (2 : Nat) ^ 8 = 256 := by decide
    rw [this]
    omega
/-- a word is its bytes -/
theorem lev_word (x : Nat) : ∀ (l : List Nat) (k : Nat), (∀ i, i < k → l.getD i 0 = x / 2 ^ (8 * i) % 256) → lev l k = x % 2 ^ (8 * k)
  | l, 0, _ => by simp [lev, Nat.mod_one]
  | l, k + 1, h => by
    rw [lev, lev_word x l k (fun i hi => h i (by omega)), h k (by omega), show 8 * (k + 1) = 8 * k + 8 by omega, Nat.pow_add, Nat.mod_mul, show (2 : Nat) ^ 8 = 256 by decide, Nat.mul_comm (2 ^ (8 * k))]
theorem or_lev {l : List Nat} (hb : ∀ i, l.getD i 0 < 256) {k : Nat} (hk : k < 8) : bits .or .u64 (lev l k : Nat) ((l.getD k 0 * 2 ^ (8 * k) : Nat) : Int) = (lev l (k + 1) : Nat) := by
  have h1 := lev_lt hb k
  have h2 := lev_lt hb (k + 1)
  have h3 : (2 : Nat) ^ (8 * (k + 1)) ≤ 2 ^ 64 := Nat.pow_le_pow_right (by decide) (by omega)
  have h4 : (2 : Nat) ^ (8 * k) ≤ 2 ^ 64 := Nat.pow_le_pow_right (by decide) (by omega)
  rw [lev] at h2
  have e := bits_or_u64_nat (lev l k) (l.getD k 0 * 2 ^ (8 * k)) (by omega) (by omega)
  rw [e, lev]
  congr 1
  have := Nat.shiftLeft_add_eq_or_of_lt h1 (l.getD k 0)
  rw [Nat.shiftLeft_eq] at this
  rw [Nat.or_comm, ← this, Nat.add_comm]
end Go.Proofs.Ytepgiomgkgfioaa
