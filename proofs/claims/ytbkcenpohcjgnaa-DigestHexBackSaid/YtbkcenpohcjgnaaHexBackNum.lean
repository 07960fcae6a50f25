import Derived.Test.YtbkcenpohcjgnaaCase
namespace Go.Proofs.Ytbkcenpohcjgnaa
open Num
set_option linter.unusedVariables false

theorem strL_of (l : List Nat) (h : ∀ b ∈ l, b < 256) : strL ⟨(l.map UInt8.ofNat).toArray⟩ = l := by
  simp only [strL]
  rw [List.map_map]
  conv => rhs; rw [← List.map_id l]
  apply List.map_congr_left
  intro b hb
  simp [UInt8.toNat_ofNat', Nat.mod_eq_of_lt (h b hb)]
theorem size_of (l : List Nat) : (⟨(l.map UInt8.ofNat).toArray⟩ : ByteArray).size = l.length := by
  show ((l.map UInt8.ofNat).toArray).size = _
  simp

theorem hexL_even : ∀ (l : List Nat) (i : Nat), i < l.length → (hexL l).getD (2 * i) 0 = hexC (l.getD i 0 / 16) := by
  intro l
  induction l with
  | nil => intro i h; simp at h
  | cons b l ih =>
    intro i h
    cases i with
    | zero => rfl
    | succ i =>
      have : 2 * (i + 1) = 2 * i + 1 + 1 := by omega
      rw [this]
      simp only [hexL, List.getD_cons_succ]
      exact ih i (by simpa using h)
theorem hexL_odd : ∀ (l : List Nat) (i : Nat), i < l.length → (hexL l).getD (2 * i + 1) 0 = hexC (l.getD i 0 % 16) := by
  intro l
  induction l with
  | nil => intro i h; simp at h
  | cons b l ih =>
    intro i h
    cases i with
    | zero => rfl
    | succ i =>
      have : 2 * (i + 1) + 1 = 2 * i + 1 + 1 + 1 := by omega
      rw [this]
      simp only [hexL, List.getD_cons_succ]
      exact ih i (by simpa using h)

theorem hexV_hexC {n : Nat} (h : n < 16) : hexV (hexC n) = n ∧ hexOk (hexC n) = true := by
  have : ∀ n, n < 16 → hexV (hexC n) = n ∧ hexOk (hexC n) = true := by decide +kernel
  exact this n h
theorem hexV_upC {n : Nat} (h : n < 16) : hexV (upC (hexC n)) = n ∧ hexOk (upC (hexC n)) = true := by
  have : ∀ n, n < 16 → hexV (upC (hexC n)) = n ∧ hexOk (upC (hexC n)) = true := by decide +kernel
  exact this n h

theorem map_getD {f : Nat → Nat} {l : List Nat} {i : Nat} (h : i < l.length) : (l.map f).getD i 0 = f (l.getD i 0) := by
  simp [List.getD, h]

theorem range_getD (l : List Nat) : (List.range l.length).map (fun i => l.getD i 0) = l := by
  apply List.ext_getElem (by simp)
  intro i h1 h2
  simp [List.getD, h2]

/-- what Hex writes is read back, each letter turned by f -/
theorem back_of {l : List Nat} (hl : l.length = 32) (hb : ∀ b ∈ l, b < 256) (f : Nat → Nat) (hf : ∀ n, n < 16 → hexV (f (hexC n)) = n ∧ hexOk (f (hexC n)) = true) :
    unhexOut ((hexL l).map f) = l ∧ unhexErr ((hexL l).map f) = 0 := by
  have hlen : ((hexL l).map f).length = 64 := by rw [List.length_map, hexL_len, hl]
  have hx : ∀ i, i < 32 → l.getD i 0 < 256 := fun i hi => hb _ (mem_getD (by omega))
  have he : ∀ i, i < 32 → ((hexL l).map f).getD (2 * i) 0 = f (hexC (l.getD i 0 / 16)) := fun i hi => by
    rw [map_getD (by rw [hexL_len]; omega), hexL_even l i (by omega)]
  have ho : ∀ i, i < 32 → ((hexL l).map f).getD (2 * i + 1) 0 = f (hexC (l.getD i 0 % 16)) := fun i hi => by
    rw [map_getD (by rw [hexL_len]; omega), hexL_odd l i (by omega)]
  have hok : okTo ((hexL l).map f) 32 = true := by
    simp only [okTo, List.all_eq_true, List.mem_range]
    intro i hi
    have := hx i hi
    rw [he i hi, ho i hi, (hf _ (by omega)).2, (hf _ (by omega)).2]; rfl
  obtain ⟨h1, h2⟩ := unhex_good hlen hok
  refine ⟨?_, h2⟩
  rw [h1, outL]
  conv => rhs; rw [← range_getD l, hl]
  apply List.map_congr_left
  intro i hi
  have hi' : i < 32 := by simpa using hi
  have := hx i hi'
  rw [he i hi', ho i hi', (hf _ (by omega)).1, (hf _ (by omega)).1]; omega

theorem hexC_hexV {c : Nat} (h : hexOk c = true) : hexC (hexV c) = loC c := by
  have h' : hexD c < 16 := by simpa [hexOk] using h
  unfold hexV
  rw [if_pos h']
  unfold hexD at *
  unfold hexC loC
  split at h'
  · rename_i h1; simp only [h1, and_self, if_true]; (repeat' split) <;> omega
  · split at h'
    · rename_i h1 h2; rw [if_neg h1, if_pos h2]; (repeat' split) <;> omega
    · split at h'
      · rename_i h1 h2 h3; rw [if_neg h1, if_neg h2, if_pos h3]; (repeat' split) <;> omega
      · omega

/-- a text that is read is what Hex writes, in small letters -/
theorem read_is {cs : List Nat} (hl : cs.length = 64) (hok : okTo cs 32 = true) : hexL (outL cs 32) = cs.map loC := by
  have hk : ∀ k, k ≤ 32 → hexL (outL cs k) = (cs.take (2 * k)).map loC := by
    intro k
    induction k with
    | zero => intro _; rfl
    | succ k ih =>
      intro hk
      have hok' : (hexOk (cs.getD (2 * k) 0) && hexOk (cs.getD (2 * k + 1) 0)) = true := by
        simp only [okTo, List.all_eq_true, List.mem_range] at hok
        exact hok k (by omega)
      simp only [Bool.and_eq_true] at hok'
      have v1 := hexV_lt (cs.getD (2 * k) 0)
      have v2 := hexV_lt (cs.getD (2 * k + 1) 0)
      rw [outL_succ, hexL_append, ih (by omega)]
      have e : 2 * (k + 1) = 2 * k + 1 + 1 := by omega
      rw [e, take_snoc cs 0 (2 * k + 1) (by omega), take_snoc cs 0 (2 * k) (by omega)]
      simp only [hexL, List.map_append, List.map_cons, List.map_nil, List.append_assoc]
      rw [show (16 * hexV (cs.getD (2 * k) 0) + hexV (cs.getD (2 * k + 1) 0)) / 16 = hexV (cs.getD (2 * k) 0) from by omega,
        show (16 * hexV (cs.getD (2 * k) 0) + hexV (cs.getD (2 * k + 1) 0)) % 16 = hexV (cs.getD (2 * k + 1) 0) from by omega, hexC_hexV hok'.1, hexC_hexV hok'.2]
      rfl
  rw [hk 32 (Nat.le_refl _), List.take_of_length_le (by omega)]

/-- one that is not read is not what Hex writes of zeroes -/
theorem unread {cs : List Nat} (hl : cs.length = 64) (h : unhexErr cs = 11) : ¬ cs.map loC = hexL (List.replicate 32 0) := by
  intro he
  have hz : ∀ c ∈ cs, hexOk c = true := by
    intro c hc
    have : loC c ∈ hexL (List.replicate 32 0) := by rw [← he]; exact List.mem_map_of_mem hc
    have h48 : ∀ x ∈ hexL (List.replicate 32 0), x = 48 := by decide +kernel
    have := h48 _ this
    have hc48 : c = 48 := by
      unfold loC at this; split at this <;> omega
    subst hc48; rfl
  have hok : okTo cs 32 = true := by
    simp only [okTo, List.all_eq_true, List.mem_range]
    intro i hi
    rw [hz _ (mem_getD (by omega)), hz _ (mem_getD (by omega))]; rfl
  rw [(unhex_good hl hok).2] at h
  omega

theorem err_cases (cs : List Nat) : unhexErr cs = 0 ∧ cs.length = 64 ∧ okTo cs 32 = true ∨ unhexErr cs = 11 ∧ unhexOut cs = List.replicate 32 0 := by
  by_cases h : unhexOk cs = true
  · left
    have h' := h
    simp only [unhexOk, Bool.and_eq_true, decide_eq_true_eq] at h'
    exact ⟨by rw [unhexErr, if_pos h], h'.1, h'.2⟩
  · right; exact ⟨by rw [unhexErr, if_neg h], by rw [unhexOut, if_neg h]⟩
end Go.Proofs.Ytbkcenpohcjgnaa
