import Derived.Test.YtglajdmkbckjjabBFrom
namespace Go.Proofs.Ytglajdmkbckjjab
open Go.RowKit
set_option linter.unusedVariables false
set_option linter.unusedSimpArgs false
set_option maxRecDepth 20000

theorem wd_or (A B k : Nat) : wd (A ||| B) k = wd A k ||| wd B k := by
  apply Nat.eq_of_testBit_eq
  intro i
  rw [Nat.testBit_or, testBit_wd, testBit_wd, testBit_wd, Nat.testBit_or]
  cases decide (i < 64) <;> simp
theorem valW_snoc : ∀ (l : List Nat) (x : Nat), valW (l ++ [x]) = valW l + 2 ^ (64 * l.length) * x
  | [], x => by simp [valW]
  | y :: r, x => by
    simp only [List.cons_append, valW, valW_snoc r x, List.length_cons]
    rw [show 64 * (r.length + 1) = 64 * r.length + 64 by omega, Nat.pow_add, show (2 : Nat) ^ 64 = 18446744073709551616 from rfl, Nat.mul_add]
    rw [Nat.mul_comm (2 ^ (64 * r.length)) 18446744073709551616, Nat.mul_assoc, Nat.add_assoc]
/-- the words that have come -/
def valT (l : List Nat) (k : Nat) : Nat := valW (l.take k)
theorem take_lt {l : List Nat} (hl : ∀ b ∈ l, b < 18446744073709551616) (k : Nat) : ∀ b ∈ l.take k, b < 18446744073709551616 := fun b hb => hl b (List.mem_of_mem_take hb)
theorem wd_valT {l : List Nat} (hl : ∀ b ∈ l, b < 18446744073709551616) (k j : Nat) : wd (valT l k) j = if j < k then l.getD j 0 else 0 := by
  unfold valT
  rw [wd_valW _ _ (take_lt hl k)]
  by_cases h : j < k
  · simp [List.getD, h]
  · rw [if_neg h, List.getD, List.getElem?_eq_none (by simp; omega)]; rfl
theorem testBit_valT {l : List Nat} (hl : ∀ b ∈ l, b < 18446744073709551616) (k i : Nat) : (valT l k).testBit i = (decide (i / 64 < k) && (valW l).testBit i) := by
  rw [bit_of_wd, wd_valT hl, bit_of_wd (valW l), wd_valW _ _ hl]
  by_cases h : i / 64 < k <;> simp [h]
theorem valT_lt {l : List Nat} {n : Nat} (hl : ∀ b ∈ l, b < 18446744073709551616) (h : valW l < 2 ^ n) (k : Nat) : valT l k < 2 ^ n := lt_of_bits fun i hi => by
  rw [testBit_valT hl, bit_ge h hi]; simp
theorem valT_all {l : List Nat} : valT l l.length = valW l := by simp [valT]
theorem valT_zero {l : List Nat} : valT l 0 = 0 := by simp [valT, valW]

/-- how many bits of V are not in B, below N -/
def news (B V N : Nat) : Nat := cnt (fun i => V.testBit i && !B.testBit i) N
theorem news_le (B V N : Nat) : news B V N ≤ N := cnt_le _ _
theorem news_step {l : List Nat} (hl : ∀ b ∈ l, b < 18446744073709551616) (B k : Nat) :
    news B (valW l) (64 * (k + 1)) = news B (valW l) (64 * k) + cnt (wd (B ||| valT l k) k ^^^ (wd (B ||| valT l k) k ||| l.getD k 0)).testBit 64 := by
  unfold news
  rw [show 64 * (k + 1) = 64 * k + 64 by omega, cnt_add]
  congr 1
  apply cnt_congr
  intro i hi
  have e : wd (B ||| valT l k) k = wd B k := by rw [wd_or, wd_valT hl, if_neg (by omega)]; simp
  rw [e, Nat.testBit_xor, Nat.testBit_or, testBit_wd, ← wd_valW l k hl, testBit_wd]
  simp only [hi, decide_true, Bool.true_and]
  cases B.testBit (64 * k + i) <;> cases (valW l).testBit (64 * k + i) <;> rfl
theorem news_all {B V n : Nat} (hV : V < 2 ^ n) : news B V (64 * nW n) = news B V n := by
  unfold news
  obtain ⟨d, hd⟩ : ∃ d, 64 * nW n = n + d := ⟨64 * nW n - n, by unfold nW; omega⟩
  rw [hd, cnt_add, cnt_zero d (fun i _ => by rw [bit_ge hV (by omega)]; rfl)]
  rfl

structure MInv (w wr : World) (L : BL) (n B : Nat) (l : List Nat) (k : Nat) : Prop where
  hk : k ≤ l.length
  rep : BRep wr L n (B ||| valT l k)
  chg : Chg L.U w wr
  sz : wr.heap.size = w.heap.size

end Go.Proofs.Ytglajdmkbckjjab
