import Derived.Test.YtbkcenpohcjgnaaNum
namespace Go.Proofs.Ytbkcenpohcjgnaa
namespace Num
/-- what a hexadecimal digit counts; 16: it is none -/
def hexD (c : Nat) : Nat := if 48 ≤ c ∧ c ≤ 57 then c - 48 else if 97 ≤ c ∧ c ≤ 102 then c - 87 else if 65 ≤ c ∧ c ≤ 70 then c - 55 else 16
def hexV (c : Nat) : Nat := if hexD c < 16 then hexD c else 0
def hexOk (c : Nat) : Bool := decide (hexD c < 16)
def hexI (c : Nat) : Int := if hexD c < 16 then (hexD c : Int) else -1
/-- the digit of a number below 16 -/
def hexC (n : Nat) : Nat := if n < 10 then 48 + n else 87 + n
def hexL : List Nat → List Nat
  | [] => []
  | b :: l => hexC (b / 16) :: hexC (b % 16) :: hexL l

theorem hexC_lt {n : Nat} (h : n < 16) : hexC n < 256 := by unfold hexC; split <;> omega
theorem hexL_len (l : List Nat) : (hexL l).length = 2 * l.length := by
  induction l with
  | nil => rfl
  | cons b l ih => simp [hexL, ih]; omega
theorem hexL_append (l m : List Nat) : hexL (l ++ m) = hexL l ++ hexL m := by
  induction l with
  | nil => rfl
  | cons b l ih => simp [hexL, ih]
theorem hexL_lt {l : List Nat} (h : ∀ b ∈ l, b < 256) : ∀ b ∈ hexL l, b < 256 := by
  induction l with
  | nil => simp [hexL]
  | cons b l ih =>
    intro c hc
    simp only [hexL, List.mem_cons] at hc
    have hb := h b (by simp)
    rcases hc with rfl | rfl | hc
    · exact hexC_lt (by omega)
    · exact hexC_lt (by omega)
    · exact ih (fun x hx => h x (by simp [hx])) c hc
/-- the byte of each pair of digits -/
def outL (cs : List Nat) (k : Nat) : List Nat := (List.range k).map fun i => 16 * hexV (cs.getD (2 * i) 0) + hexV (cs.getD (2 * i + 1) 0)
/-- are the first k pairs digits? -/
def okTo (cs : List Nat) (k : Nat) : Bool := (List.range k).all fun i => hexOk (cs.getD (2 * i) 0) && hexOk (cs.getD (2 * i + 1) 0)
def unhexOk (cs : List Nat) : Bool := decide (cs.length = 64) && okTo cs 32
def unhexOut (cs : List Nat) : List Nat := if unhexOk cs = true then outL cs 32 else List.replicate 32 0
def unhexErr (cs : List Nat) : Int := if unhexOk cs = true then 0 else 11

theorem outL_succ (cs : List Nat) (k : Nat) : outL cs (k + 1) = outL cs k ++ [16 * hexV (cs.getD (2 * k) 0) + hexV (cs.getD (2 * k + 1) 0)] := by
  simp [outL, List.range_succ]
theorem outL_len (cs : List Nat) (k : Nat) : (outL cs k).length = k := by simp [outL]
theorem okTo_succ (cs : List Nat) (k : Nat) : okTo cs (k + 1) = (okTo cs k && (hexOk (cs.getD (2 * k) 0) && hexOk (cs.getD (2 * k + 1) 0))) := by
  simp [okTo, List.range_succ]
theorem okTo_of (cs : List Nat) {k n : Nat} (h : k ≤ n) (hn : okTo cs n = true) : okTo cs k = true := by
  simp only [okTo, List.all_eq_true, List.mem_range] at *
  intro i hi; exact hn i (by omega)
theorem hexV_lt (c : Nat) : hexV c < 16 := by unfold hexV; split <;> omega
theorem outL_lt (cs : List Nat) (k : Nat) : ∀ b ∈ outL cs k, b < 256 := by
  intro b hb
  obtain ⟨i, _, rfl⟩ := List.mem_map.1 hb
  have := hexV_lt (cs.getD (2 * i) 0)
  have := hexV_lt (cs.getD (2 * i + 1) 0)
  omega
theorem unhexOut_len (cs : List Nat) : (unhexOut cs).length = 32 := by unfold unhexOut; split <;> simp [outL_len]
theorem unhexOut_lt (cs : List Nat) : ∀ b ∈ unhexOut cs, b < 256 := by
  unfold unhexOut; split
  · exact outL_lt cs 32
  · intro b hb; have := List.eq_of_mem_replicate hb; omega
theorem unhex_bad {cs : List Nat} {k : Nat} (hk : k < 32) (h : okTo cs (k + 1) = false) : unhexOut cs = List.replicate 32 0 ∧ unhexErr cs = 11 := by
  have hb : ¬ unhexOk cs = true := by
    intro h1
    simp only [unhexOk, Bool.and_eq_true] at h1
    rw [okTo_of cs (show k + 1 ≤ 32 by omega) h1.2] at h
    cases h
  exact ⟨by rw [unhexOut, if_neg hb], by rw [unhexErr, if_neg hb]⟩
theorem unhex_good {cs : List Nat} (hl : cs.length = 64) (h : okTo cs 32 = true) : unhexOut cs = outL cs 32 ∧ unhexErr cs = 0 := by
  have hb : unhexOk cs = true := by simp [unhexOk, hl, h]
  exact ⟨by rw [unhexOut, if_pos hb], by rw [unhexErr, if_pos hb]⟩
theorem unhex_short {cs : List Nat} (hl : ¬ cs.length = 64) : unhexOut cs = List.replicate 32 0 ∧ unhexErr cs = 11 := by
  have hb : ¬ unhexOk cs = true := by simp [unhexOk, hl]
  exact ⟨by rw [unhexOut, if_neg hb], by rw [unhexErr, if_neg hb]⟩
end Num
end Go.Proofs.Ytbkcenpohcjgnaa
