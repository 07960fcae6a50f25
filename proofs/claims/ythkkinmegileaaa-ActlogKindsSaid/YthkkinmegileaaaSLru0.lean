import Derived.Test.YthkkinmegileaaaALruA
namespace Go.Proofs.Ythkkinmegileaaa.St
open Go.RowKit Go.Sort
set_option linter.unusedVariables false
set_option linter.unusedSimpArgs false
set_option maxRecDepth 20000

/-- the digits of a number, the lowest last: m of them -/
def digs (k : Nat) : Nat → List UInt8
  | 0 => []
  | m + 1 => UInt8.ofNat (48 + k / 10 ^ m % 10) :: digs k m
theorem digs_len (k : Nat) : ∀ m, (digs k m).length = m
  | 0 => rfl
  | m + 1 => by simp [digs, digs_len k m]
theorem digs_inj : ∀ {m a b : Nat}, digs a m = digs b m → a % 10 ^ m = b % 10 ^ m
  | 0, a, b, _ => by simp [Nat.mod_one]
  | m + 1, a, b, h => by
    simp only [digs, List.cons.injEq] at h
    have h1 := congrArg UInt8.toNat h.1
    rw [UInt8.toNat_ofNat', UInt8.toNat_ofNat'] at h1
    have h2 := digs_inj h.2
    have e1 : a / 10 ^ m % 10 < 10 := Nat.mod_lt _ (by decide)
    have e2 : b / 10 ^ m % 10 < 10 := Nat.mod_lt _ (by decide)
    have h3 : a / 10 ^ m % 10 = b / 10 ^ m % 10 := by omega
    rw [Nat.pow_succ, Nat.mod_mul, Nat.mod_mul, h2, h3]
/-- the text of a number -/
def nm (k : Int) : ByteArray := if k.natAbs < 10 ^ 20 then ⟨(if k < 0 then 45 :: digs k.natAbs 20 else digs k.natAbs 20).toArray⟩ else ⟨(List.replicate (k.natAbs + 30) (if k < 0 then (1 : UInt8) else 0)).toArray⟩
theorem nm_inj {a b : Int} (h : (nm a).data.toList = (nm b).data.toList) : a = b := by
  have hd : ∀ x : Nat, (digs x 20).head? = some (UInt8.ofNat (48 + x / 10 ^ 19 % 10)) := fun x => rfl
  have hne : ∀ x : Nat, UInt8.ofNat (48 + x / 10 ^ 19 % 10) ≠ 45 := fun x e => by
    have h1 := congrArg UInt8.toNat e
    rw [UInt8.toNat_ofNat'] at h1
    have e1 : x / 10 ^ 19 % 10 < 10 := Nat.mod_lt _ (by decide)
    have : (45 : UInt8).toNat = 45 := rfl
    omega
  have key : ∀ {x y : Nat}, x < 10 ^ 20 → y < 10 ^ 20 → digs x 20 = digs y 20 → x = y := fun hx hy e => by
    have := digs_inj e
    rwa [Nat.mod_eq_of_lt hx, Nat.mod_eq_of_lt hy] at this
  have lens : ∀ (c : Int), ((if c < 0 then 45 :: digs c.natAbs 20 else digs c.natAbs 20) : List UInt8).length ≤ 21 := fun c => by
    split
    · rw [List.length_cons, digs_len]; omega
    · rw [digs_len]; omega
  unfold nm at h
  by_cases ha : a.natAbs < 10 ^ 20
  · by_cases hb : b.natAbs < 10 ^ 20
    · rw [if_pos ha, if_pos hb] at h
      simp only at h
      by_cases h1 : a < 0
      · by_cases h2 : b < 0
        · rw [if_pos h1, if_pos h2] at h
          simp only [List.cons.injEq, true_and] at h
          have := key ha hb h
          omega
        · rw [if_pos h1, if_neg h2] at h
          have := congrArg List.head? h
          rw [hd] at this
          exact absurd (Option.some.inj this).symm (hne _)
      · by_cases h2 : b < 0
        · rw [if_neg h1, if_pos h2] at h
          have := congrArg List.head? h
          rw [hd] at this
          exact absurd (Option.some.inj this) (hne _)
        · rw [if_neg h1, if_neg h2] at h
          have := key ha hb h
          omega
    · rw [if_pos ha, if_neg hb] at h
      have := congrArg List.length h
      simp only [List.length_replicate] at this
      have := lens a
      omega
  · by_cases hb : b.natAbs < 10 ^ 20
    · rw [if_neg ha, if_pos hb] at h
      have := congrArg List.length h
      simp only [List.length_replicate] at this
      have := lens b
      omega
    · rw [if_neg ha, if_neg hb] at h
      simp only at h
      have h3 := congrArg List.length h
      simp only [List.length_replicate] at h3
      have h5 : (if a < 0 then (1 : UInt8) else 0) = if b < 0 then 1 else 0 := by
        have h4 := h
        rw [show a.natAbs + 30 = (a.natAbs + 29) + 1 from rfl, show b.natAbs + 30 = (b.natAbs + 29) + 1 from rfl, List.replicate_succ, List.replicate_succ] at h4
        exact (List.cons.inj h4).1
      by_cases h1 : a < 0
      · by_cases h2 : b < 0
        · omega
        · rw [if_pos h1, if_neg h2] at h5; cases h5
      · by_cases h2 : b < 0
        · rw [if_neg h1, if_pos h2] at h5; cases h5
        · omega
theorem nm_size {k : Int} (h : i64ok k) : (nm k).size ≤ 21 := by
  unfold i64ok at h
  unfold nm
  rw [if_pos (by omega)]
  show (List.toArray _).size ≤ 21
  simp only [List.size_toArray]
  split
  · rw [List.length_cons, digs_len]; omega
  · rw [digs_len]; omega
def sK (z : Int) : Value := .string (nm z)
def kL (z : Int) : Lit := .string (nm z).data.toList
theorem kStr : Maps.Keyed Try.prog 9 := Maps.string_keyed Try.underlying9
theorem keyS {z : Int} (h : i64ok z) : keyOf Try.prog 9 (.string (nm z)) = some (kL z) := by
  have := nm_size h
  have h2 : (nm z).size ≤ maxLen := by unfold maxLen; omega
  simp [keyOf, Try.underlying9, mapKey, h2, kL]
theorem kL_inj {a b : Int} (h : kL a = kL b) : a = b := nm_inj (by simpa [kL] using h)
theorem kL_ne {a b : Int} (h : a ≠ b) : kL a ≠ kL b := fun e => h (kL_inj e)
theorem isKeyLit (z : Int) : WideAt.IsKeyLit (kL z) := by simp [WideAt.IsKeyLit, kL]
end Go.Proofs.Ythkkinmegileaaa.St
