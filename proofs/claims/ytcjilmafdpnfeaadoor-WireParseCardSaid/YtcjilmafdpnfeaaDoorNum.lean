/- Plain mathematics of the CRC: nothing of the program. -/
namespace Go.Proofs.YtcjilmafdpnfeaaDoor
namespace Num

/-- one bit shifted out -/
def crc1 (x : Nat) : Nat := if x % 2 = 1 then (x / 2) ^^^ 2197175160 else x / 2

def crcN : Nat → Nat → Nat
  | 0, x => x
  | k + 1, x => crc1 (crcN k x)

/-- the word behind a list of bytes -/
def crcL (x : Nat) (l : List Nat) : Nat := l.foldl (fun y b => crcN 8 (y ^^^ b)) x

theorem crc1_lt {x : Nat} (h : x < 4294967296) : crc1 x < 4294967296 := by
  unfold crc1
  split
  · exact Nat.xor_lt_two_pow (n := 32) (by omega) (by omega)
  · omega

theorem crcN_lt (k : Nat) {x : Nat} (h : x < 4294967296) : crcN k x < 4294967296 := by
  induction k with
  | zero => exact h
  | succ k ih => exact crc1_lt ih

theorem crcL_lt (l : List Nat) : ∀ {x : Nat}, x < 4294967296 → (∀ b ∈ l, b < 256) → crcL x l < 4294967296 := by
  induction l with
  | nil => intro x h _; exact h
  | cons b l ih =>
    intro x h hb
    have h1 : x ^^^ b < 4294967296 := Nat.xor_lt_two_pow (n := 32) h (by have := hb b (by simp); omega)
    exact ih (crcN_lt 8 h1) (fun c hc => hb c (by simp [hc]))

theorem crcL_append (x : Nat) (l m : List Nat) : crcL x (l ++ m) = crcL (crcL x l) m := by
  simp [crcL]

theorem crcL_snoc (x : Nat) (l : List Nat) (b : Nat) : crcL x (l ++ [b]) = crcN 8 (crcL x l ^^^ b) := by
  simp [crcL]

end Num
end Go.Proofs.YtcjilmafdpnfeaaDoor
namespace Go.Proofs.YtcjilmafdpnfeaaDoor
namespace Num
/-- the CRC of some bytes from a value on -/
def crcM (c : Nat) (l : List Nat) : Nat := crcL (c ^^^ 4294967295) l ^^^ 4294967295

theorem xor_ones_lt {c : Nat} (h : c < 4294967296) : c ^^^ 4294967295 < 4294967296 := Nat.xor_lt_two_pow (n := 32) h (by omega)

theorem crcM_lt {c : Nat} (l : List Nat) (h : c < 4294967296) (hb : ∀ b ∈ l, b < 256) : crcM c l < 4294967296 :=
  xor_ones_lt (crcL_lt l (xor_ones_lt h) hb)

theorem xor_ones (c : Nat) (h : c < 4294967296) : c ^^^ 4294967295 = 4294967295 - c := by
  have h2 : 4294967295 - c = 2 ^ 32 - (c + 1) := by omega
  rw [h2]
  apply Nat.eq_of_testBit_eq
  intro i
  rw [Nat.testBit_two_pow_sub_succ (by omega), Nat.testBit_xor]
  have : (4294967295 : Nat) = 2 ^ 32 - 1 := by decide
  rw [this, Nat.testBit_two_pow_sub_one]
  by_cases hi : i < 32
  · simp [hi]
  · have : c.testBit i = false := Nat.testBit_lt_two_pow (Nat.lt_of_lt_of_le h (by have := Nat.pow_le_pow_right (n := 2) (by omega) (show 32 ≤ i by omega); omega))
    simp [hi, this]

theorem take_snoc {α : Type} (l : List α) (d : α) (k : Nat) (h : k < l.length) : l.take (k + 1) = l.take k ++ [l.getD k d] := by
  rw [List.take_succ_eq_append_getElem h]; simp [List.getD, h]
end Num
end Go.Proofs.YtcjilmafdpnfeaaDoor
namespace Go.Proofs.YtcjilmafdpnfeaaDoor
namespace Num
/-- what a hexadecimal digit counts; 16: it is none -/
def hexD (c : Nat) : Nat := if 48 ≤ c ∧ c ≤ 57 then c - 48 else if 97 ≤ c ∧ c ≤ 102 then c - 87 else if 65 ≤ c ∧ c ≤ 70 then c - 55 else 16
def hexV (c : Nat) : Nat := if hexD c < 16 then hexD c else 0
def hexOk (c : Nat) : Bool := decide (hexD c < 16)
def hexI (c : Nat) : Int := if hexD c < 16 then (hexD c : Int) else -1
/-- the digit of a number below 16 -/
def hexC (n : Nat) : Nat := if n < 10 then 48 + n else 87 + n
def hexL : List Nat → List Nat
  | [] => []
  | b :: l => hexC (b / 16) :: hexC (b % 16) :: hexL l

theorem hexC_lt {n : Nat} (h : n < 16) : hexC n < 256 := by unfold hexC; split <;> omega
theorem hexL_len (l : List Nat) : (hexL l).length = 2 * l.length := by
  induction l with
  | nil => rfl
  | cons b l ih => simp [hexL, ih]; omega
theorem hexL_append (l m : List Nat) : hexL (l ++ m) = hexL l ++ hexL m := by
  induction l with
  | nil => rfl
  | cons b l ih => simp [hexL, ih]
theorem hexL_lt {l : List Nat} (h : ∀ b ∈ l, b < 256) : ∀ b ∈ hexL l, b < 256 := by
  induction l with
  | nil => simp [hexL]
  | cons b l ih =>
    intro c hc
    simp only [hexL, List.mem_cons] at hc
    have hb := h b (by simp)
    rcases hc with rfl | rfl | hc
    · exact hexC_lt (by omega)
    · exact hexC_lt (by omega)
    · exact ih (fun x hx => h x (by simp [hx])) c hc
end Num
end Go.Proofs.YtcjilmafdpnfeaaDoor
