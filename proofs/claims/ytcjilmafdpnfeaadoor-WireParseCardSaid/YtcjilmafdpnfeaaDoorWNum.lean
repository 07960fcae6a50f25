import Derived.Test.YtcjilmafdpnfeaaDoorNum
namespace Go.Proofs.YtcjilmafdpnfeaaDoor
open Num
/-- a number's k lowest bytes, the highest first -/
def be (num : Nat) : Nat → List Nat
  | 0 => []
  | k + 1 => (num / 256 ^ k % 256) :: be num k
theorem be_len (num : Nat) : ∀ k, (be num k).length = k
  | 0 => rfl
  | k + 1 => by simp [be, be_len num k]
theorem be_lt (num : Nat) : ∀ k, ∀ x ∈ be num k, x < 256
  | 0, x, h => by simp [be] at h
  | k + 1, x, h => by
    rcases List.mem_cons.1 h with rfl | h
    · exact Nat.mod_lt _ (by decide)
    · exact be_lt num k x h
theorem be_getD (num : Nat) : ∀ k i, i < k → (be num k).getD i 0 = num / 256 ^ (k - 1 - i) % 256
  | 0, i, h => by omega
  | k + 1, 0, _ => by simp [be]
  | k + 1, i + 1, h => by
    have := be_getD num k i (by omega)
    rw [show (be num (k + 1)).getD (i + 1) 0 = (be num k).getD i 0 from by simp [be]]
    rw [this, show k + 1 - 1 - (i + 1) = k - 1 - i by omega]
theorem be_take (num k i : Nat) (h : i < k) : (be num k).take (i + 1) = (be num k).take i ++ [num / 256 ^ (k - 1 - i) % 256] := by
  rw [take_snoc (be num k) 0 i (by rw [be_len]; exact h), be_getD num k i h]
/-- the number that bytes are, the highest first -/
def bv (l : List Nat) : Nat := l.foldl (fun a b => a * 256 + b) 0
theorem bv_snoc (l : List Nat) (b : Nat) : bv (l ++ [b]) = bv l * 256 + b := by simp [bv]
theorem bv_lt (l : List Nat) (h : ∀ b ∈ l, b < 256) : bv l < 256 ^ l.length := by
  have key : ∀ (l : List Nat) (a n : Nat), (∀ b ∈ l, b < 256) → a < 256 ^ n → l.foldl (fun a b => a * 256 + b) a < 256 ^ (n + l.length) := by
    intro l
    induction l with
    | nil => intro a n _ ha; exact ha
    | cons b l ih =>
      intro a n hb ha
      have h1 := hb b (by simp)
      have h2 : a * 256 + b < 256 ^ (n + 1) := by rw [Nat.pow_succ]; omega
      have := ih (a * 256 + b) (n + 1) (fun c hc => hb c (by simp [hc])) h2
      rw [show n + (b :: l).length = n + 1 + l.length by simp; omega]
      exact this
  have := key l 0 0 h (by decide)
  rw [Nat.zero_add] at this
  exact this
theorem bv_cons (b : Nat) (l : List Nat) : bv (b :: l) = b * 256 ^ l.length + bv l := by
  have key : ∀ (l : List Nat) (a : Nat), l.foldl (fun a b => a * 256 + b) a = a * 256 ^ l.length + bv l := by
    intro l
    induction l with
    | nil => intro a; simp [bv]
    | cons c l ih =>
      intro a
      have h1 := ih (a * 256 + c)
      have h2 := ih c
      show l.foldl (fun a b => a * 256 + b) (a * 256 + c) = _
      have h3 : bv (c :: l) = l.foldl (fun a b => a * 256 + b) (0 * 256 + c) := rfl
      rw [h1, h3, show 0 * 256 + c = c by omega, h2, List.length_cons, Nat.pow_succ, Nat.add_mul, Nat.add_assoc]
      congr 1
      rw [Nat.mul_assoc, Nat.mul_comm 256]
  have := key l b
  show l.foldl (fun a b => a * 256 + b) (0 * 256 + b) = _
  rw [show 0 * 256 + b = b by omega, this]
theorem bv_be (num : Nat) : ∀ k, bv (be num k) = num % 256 ^ k
  | 0 => by simp [be, bv, Nat.mod_one]
  | k + 1 => by
    show bv ((num / 256 ^ k % 256) :: be num k) = _
    rw [bv_cons, be_len, bv_be num k, Nat.pow_succ, Nat.mod_mul]
    rw [Nat.mul_comm, Nat.add_comm]
theorem be_bv (l : List Nat) (h : ∀ b ∈ l, b < 256) : be (bv l) l.length = l := by
  induction l with
  | nil => rfl
  | cons b l ih =>
    have hb := h b (by simp)
    have hl : ∀ c ∈ l, c < 256 := fun c hc => h c (by simp [hc])
    have h1 := bv_lt l hl
    have hp : 0 < 256 ^ l.length := Nat.pow_pos (by decide)
    rw [bv_cons]
    show (((b * 256 ^ l.length + bv l) / 256 ^ l.length % 256) :: be (b * 256 ^ l.length + bv l) l.length) = _
    rw [Nat.mul_comm b, Nat.mul_add_div hp, Nat.div_eq_of_lt h1, Nat.add_zero, Nat.mod_eq_of_lt hb]
    have key : ∀ k m, k ≤ m → ∀ x y, be (256 ^ m * x + y) k = be y k := by
      intro k
      induction k with
      | zero => intros; rfl
      | succ k ihk =>
        intro m hm x y
        show ((256 ^ m * x + y) / 256 ^ k % 256 :: be (256 ^ m * x + y) k) = (y / 256 ^ k % 256 :: be y k)
        rw [ihk m (by omega) x y]
        congr 1
        have hk : 0 < 256 ^ k := Nat.pow_pos (by decide)
        obtain ⟨j, rfl⟩ : ∃ j, m = k + (j + 1) := ⟨m - k - 1, by omega⟩
        rw [Nat.pow_add, Nat.mul_assoc, Nat.mul_add_div hk, Nat.pow_succ, Nat.mul_comm (256 ^ j) 256, Nat.mul_assoc, Nat.mul_add_mod]
    rw [key l.length l.length (Nat.le_refl _), ih hl]
theorem be_ext (a b k : Nat) (ha : a < 256 ^ k) (hb : b < 256 ^ k) (h : be a k = be b k) : a = b := by
  have h1 := bv_be a k
  rw [h, bv_be b k, Nat.mod_eq_of_lt ha, Nat.mod_eq_of_lt hb] at h1
  exact h1.symm
/-- the CRC goes on behind some bytes -/
theorem crcM_append (c : Nat) (l m : List Nat) : crcM c (l ++ m) = crcM (crcM c l) m := by
  unfold crcM
  rw [crcL_append, Nat.xor_assoc, Nat.xor_self, Nat.xor_zero]
/-- what stands ahead of a frame's sum -/
def hd (k a b c d n : Nat) : List Nat := [82, 70, k, 1] ++ be a 4 ++ be b 4 ++ be c 4 ++ be d 4 ++ be n 2
theorem hd_len (k a b c d n : Nat) : (hd k a b c d n).length = 22 := by simp [hd, be_len]
theorem hd_lt {k a b c d n : Nat} (hk : k < 256) : ∀ x ∈ hd k a b c d n, x < 256 := by
  intro x hx
  simp only [hd, List.mem_append, List.mem_cons, List.not_mem_nil, or_false] at hx
  rcases hx with ((((h | h) | h) | h) | h) | h
  · rcases h with rfl | rfl | rfl | rfl <;> omega
  all_goals exact be_lt _ _ _ h
/-- a frame's sum -/
def fsum (k a b c d : Nat) (p : List Nat) : Nat := crcM 0 (hd k a b c d p.length ++ be 0 4 ++ p)
theorem fsum_eq (k a b c d : Nat) (p : List Nat) : fsum k a b c d p = crcM (crcM (crcM 0 (hd k a b c d p.length)) [0, 0, 0, 0]) p := by
  unfold fsum
  rw [crcM_append, crcM_append]
  rfl
theorem fsum_lt {k a b c d : Nat} {p : List Nat} (hk : k < 256) (hp : ∀ x ∈ p, x < 256) : fsum k a b c d p < 4294967296 := by
  unfold fsum
  refine crcM_lt _ (by decide) fun x hx => ?_
  rcases List.mem_append.1 hx with h | h
  · rcases List.mem_append.1 h with h | h
    · exact hd_lt hk x h
    · exact be_lt _ _ _ h
  · exact hp x h
/-- a frame's bytes -/
def frm (k a b c d s : Nat) (p : List Nat) : List Nat := hd k a b c d p.length ++ be s 4 ++ p
theorem frm_len (k a b c d s : Nat) (p : List Nat) : (frm k a b c d s p).length = 26 + p.length := by simp [frm, hd_len, be_len]; omega
theorem frm_lt {k a b c d s : Nat} {p : List Nat} (hk : k < 256) (hp : ∀ x ∈ p, x < 256) : ∀ x ∈ frm k a b c d s p, x < 256 := by
  intro x hx
  rcases List.mem_append.1 hx with h | h
  · rcases List.mem_append.1 h with h | h
    · exact hd_lt hk x h
    · exact be_lt _ _ _ h
  · exact hp x h
end Go.Proofs.YtcjilmafdpnfeaaDoor
namespace Go.Proofs.YtcjilmafdpnfeaaDoor
open Num
/-- some bytes out of a list -/
def sg (l : List Nat) (i m : Nat) : List Nat := (l.drop i).take m
theorem sg_len {l : List Nat} {i m : Nat} (h : i + m ≤ l.length) : (sg l i m).length = m := by simp [sg]; omega
theorem sg_getD {l : List Nat} {i m j : Nat} (hj : j < m) : (sg l i m).getD j 0 = l.getD (i + j) 0 := by
  simp only [sg, List.getD]
  rw [List.getElem?_take_of_lt hj, List.getElem?_drop]
theorem sg_mem {l : List Nat} {i m x : Nat} (h : x ∈ sg l i m) : x ∈ l := List.mem_of_mem_drop (List.mem_of_mem_take h)
theorem sg_zero (l : List Nat) (m : Nat) : sg l 0 m = l.take m := by simp [sg]
theorem sg_rest (l : List Nat) (i : Nat) : sg l i (l.length - i) = l.drop i := by
  unfold sg; rw [List.take_of_length_le (by simp)]
theorem sg_join (l : List Nat) (i m n : Nat) : sg l i m ++ sg l (i + m) n = sg l i (m + n) := by
  unfold sg
  rw [List.take_add, List.drop_drop]
/-- the error of a frame's kind and its payload's length -/
def ferr (k : Int) (n : Nat) : Nat := if k < 1 ∨ 4 < k then 74 else if (k = 2 ∧ n = 0) ∨ (k ≠ 2 ∧ 0 < n) ∨ 2048 < n then 75 else 0
theorem ferr_zero {k : Int} {n : Nat} (h : ferr k n = 0) : 1 ≤ k ∧ k ≤ 4 ∧ n ≤ 2048 := by
  unfold ferr at h
  split at h
  · cases h
  · split at h
    · cases h
    · omega
/-- what EncodeFrame writes -/
def fbytes (k : Int) (a b c d : Nat) (p : List Nat) : List Nat := if ferr k p.length = 0 then frm k.toNat a b c d (fsum k.toNat a b c d p) p else []
/-- the error of bytes that are read as a frame -/
def derr (b : List Nat) : Nat :=
  if b.length < 26 then 71
  else if b.getD 0 0 ≠ 82 ∨ b.getD 1 0 ≠ 70 ∨ b.getD 3 0 ≠ 1 then 72
  else if ferr (b.getD 2 0 : Nat) (bv (sg b 20 2)) ≠ 0 then ferr (b.getD 2 0 : Nat) (bv (sg b 20 2))
  else if b.length < 26 + bv (sg b 20 2) then 71
  else if 26 + bv (sg b 20 2) < b.length then 76
  else if bv (sg b 22 4) ≠ crcM (crcM (crcM 0 (b.take 22)) [0, 0, 0, 0]) (b.drop 26) then 73 else 0
theorem bv2 (x y : Nat) : bv [x, y] = 256 * x + y := by simp [bv]; omega
theorem sg2 {l : List Nat} {i : Nat} (h : i + 2 ≤ l.length) : sg l i 2 = [l.getD i 0, l.getD (i + 1) 0] := by
  apply List.ext_getElem
  · rw [sg_len h]; rfl
  · intro j h1 h2
    have hj : j < 2 := h2
    have e1 : (sg l i 2)[j] = (sg l i 2).getD j 0 := by simp [List.getD, h1]
    rw [e1, sg_getD hj]
    obtain rfl | rfl : j = 0 ∨ j = 1 := by omega
    all_goals rfl
theorem sg1 {l : List Nat} {i : Nat} (h : i < l.length) : sg l i 1 = [l.getD i 0] := by
  apply List.ext_getElem
  · rw [sg_len (by omega)]; rfl
  · intro j h1 h2
    have hj : j < 1 := h2
    have e1 : (sg l i 1)[j] = (sg l i 1).getD j 0 := by simp [List.getD, h1]
    rw [e1, sg_getD hj]
    obtain rfl : j = 0 := by omega
    rfl
/-- what stands ahead of the sum is told by the fields -/
theorem hd_of {b : List Nat} (hb : ∀ x ∈ b, x < 256) (hl : 26 ≤ b.length) (h0 : b.getD 0 0 = 82) (h1 : b.getD 1 0 = 70) (h3 : b.getD 3 0 = 1) :
    hd (b.getD 2 0) (bv (sg b 4 4)) (bv (sg b 8 4)) (bv (sg b 12 4)) (bv (sg b 16 4)) (bv (sg b 20 2)) = b.take 22 := by
  have hbe : ∀ i m, i + m ≤ b.length → be (bv (sg b i m)) m = sg b i m := by
    intro i m h
    have := be_bv (sg b i m) (fun x hx => hb x (sg_mem hx))
    rw [sg_len h] at this
    exact this
  have e0 : [82, 70, b.getD 2 0, 1] = sg b 0 4 := by
    rw [show sg b 0 4 = sg b 0 2 ++ sg b 2 2 from (sg_join b 0 2 2).symm, sg2 (by omega), sg2 (by omega), h0, h1, h3]
    rfl
  unfold hd
  rw [hbe 4 4 (by omega), hbe 8 4 (by omega), hbe 12 4 (by omega), hbe 16 4 (by omega), hbe 20 2 (by omega), e0]
  rw [show sg b 4 4 = sg b (0 + 4) 4 from rfl, sg_join, show sg b 8 4 = sg b (0 + (4 + 4)) 4 from rfl, sg_join, show sg b 12 4 = sg b (0 + (4 + 4 + 4)) 4 from rfl, sg_join, show sg b 16 4 = sg b (0 + (4 + 4 + 4 + 4)) 4 from rfl, sg_join, show sg b 20 2 = sg b (0 + (4 + 4 + 4 + 4 + 4)) 2 from rfl, sg_join, sg_zero]
end Go.Proofs.YtcjilmafdpnfeaaDoor
