import Derived.Test.YtglajdmkbckjjabDoorBBy
namespace Go.Proofs.YtglajdmkbckjjabDoor
open Go.RowKit Go.Shelf
set_option linter.unusedVariables false
set_option linter.unusedSimpArgs false
set_option maxRecDepth 20000

theorem dec_pos (n : Nat) (ds : List Bool) : 1 ≤ (decR n ds).1 := by
  have h1 : 1 ≤ (readR n ds).1 := by
    unfold readR
    cases ds with
    | nil => exact Nat.le_refl _
    | cons d l =>
      rw [bndR_some (c := 1) (a := d) rfl]
      show 1 ≤ 1 + _
      omega
  unfold decR
  change 1 ≤ (bndR (readR n) _ ds).1
  cases h : readR n ds with
  | mk c o =>
    rw [h] at h1
    cases o with
    | none => rw [bndR_none h]; exact h1
    | some B => rw [bndR_some h]; show 1 ≤ c + _; have : 1 ≤ c := h1; omega
theorem dOut_le {n : Nat} {c : List Nat} {a : Nat} (h : dOut n c = (none, a)) : a ≤ c.length := by
  unfold dOut at h
  have h1 := (good_dec n).le (digs c)
  rw [digs_len] at h1
  cases hd : decR n (digs c) with
  | mk k o =>
    rw [hd] at h h1
    cases o with
    | none => simp at h; omega
    | some B =>
      dsimp only at h
      split at h
      · simp at h; omega
      · simp at h
/-- what is taken is a bitmap's code -/
theorem dOut_code {n : Nat} {c : List Nat} {B a : Nat} (h1 : 1 ≤ n) (hc : ∀ x ∈ c, x < 256) (h : dOut n c = (some B, a)) : Wrt c (encD B n) ∧ B < 2 ^ n ∧ a = 0 := by
  unfold dOut at h
  cases hd : decR n (digs c) with
  | mk k o =>
    rw [hd] at h
    cases o with
    | none => simp at h
    | some B' =>
      dsimp only at h
      split at h
      · simp at h
      · rename_i hk
        simp only [Prod.mk.injEq, Option.some.injEq] at h
        obtain ⟨rfl, rfl⟩ := h
        obtain ⟨e1, e2, e3⟩ := dec_is h1 hd
        have h2 := (good_dec n).sle _ _ _ hd
        rw [digs_len] at h2
        have hk2 : k = (digs c).length := by rw [digs_len]; omega
        rw [hk2, List.take_length] at e2
        exact ⟨⟨hc, e2⟩, e1, rfl⟩
/-- a byte behind a code cannot stand there -/
theorem dOut_more {n : Nat} {c : List Nat} {B x : Nat} (h1 : 1 ≤ n) (h2 : n ≤ 65536) (hB : B < 2 ^ n) (h : Wrt c (encD B n)) : dOut n (c ++ [x]) = (none, c.length) := by
  unfold dOut
  have e := dec_of h1 hB h2 (digs [x])
  rw [← wrt_encF h, ← digs_app, digs_len] at e
  rw [e]
  dsimp only
  rw [if_pos (by simp)]
  congr 1
  omega
/-- a code that ends earlier ends too early -/
theorem dOut_less {n : Nat} {c : List Nat} {B : Nat} (h1 : 1 ≤ n) (h2 : n ≤ 65536) (hB : B < 2 ^ n) (h : Wrt c (encD B n)) (p : Nat) (hp : p < c.length) : dOut n (c.take p) = (none, p) := by
  unfold dOut
  have e := dec_of h1 hB h2 []
  rw [List.append_nil, ← wrt_encF h] at e
  have ho := (good_dec n).out (digs c) (8 * p) (by rw [e, digs_len]; show 8 * p < 8 * c.length; omega) (by rw [digs_len]; omega)
  rw [digs_take] at ho
  rw [ho]
  show (none, (8 * p + 1 - 1) / 8) = _
  congr 1
  omega
theorem val_wds {B n : Nat} (h1 : 1 ≤ n) (hB : B < 2 ^ n) : valW (wds B (nW n)) = B ∧ cwErr n (wds B (nW n)) = 0 := by
  have hlt : ∀ b ∈ wds B (nW n), b < 18446744073709551616 := wds_lt _ _
  have hval : valW (wds B (nW n)) = B := by
    have hB2 : B < 2 ^ (64 * nW n) := Nat.lt_of_lt_of_le hB (Nat.pow_le_pow_right (by decide) (by unfold nW; omega))
    refine wd_ext (m := nW n) (fun k hk => ?_) ?_ hB2
    · rw [wd_valW _ _ hlt, wds_get hk]
    · have := valW_lt _ hlt
      rwa [wds_len] at this
  refine ⟨hval, ?_⟩
  unfold cwErr
  rw [if_neg (by rw [wds_len]; simp)]
  rw [if_neg]
  rintro ⟨h3, h4⟩
  apply h4
  rw [wds_len, wds_get (by unfold nW; omega)]
  refine Nat.div_eq_of_lt ?_
  refine lt_of_bits fun i hi => ?_
  rw [testBit_wd]
  by_cases h64 : i < 64
  · rw [bit_ge hB (by unfold nW; omega)]
    simp
  · simp [h64]
theorem wds_zero (n : Nat) : wds 0 n = List.replicate n 0 := by
  unfold wds
  apply List.ext_getElem
  · simp
  · intro i h1 h2
    simp [wd_zero]
end Go.Proofs.YtglajdmkbckjjabDoor
