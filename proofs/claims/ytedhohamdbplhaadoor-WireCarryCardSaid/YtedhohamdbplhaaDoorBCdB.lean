import Derived.Test.YtedhohamdbplhaaDoorBCdN
namespace Go.Proofs.YtedhohamdbplhaaDoor.B
set_option linter.unusedVariables false
set_option linter.unusedSimpArgs false

/-- a byte's digits, the highest first; a code's -/
def dig8 (x : Nat) : List Bool := [x.testBit 7, x.testBit 6, x.testBit 5, x.testBit 4, x.testBit 3, x.testBit 2, x.testBit 1, x.testBit 0]
def digs : List Nat → List Bool
  | [] => []
  | x :: l => dig8 x ++ digs l
theorem digs_len : ∀ c, (digs c).length = 8 * c.length
  | [] => rfl
  | x :: l => by simp [digs, dig8, digs_len l]; omega
theorem digs_app : ∀ a b, digs (a ++ b) = digs a ++ digs b
  | [], b => rfl
  | x :: l, b => by simp [digs, digs_app l b]
theorem dig8_get (x j : Nat) (h : j < 8) : (dig8 x)[j]? = some (x.testBit (7 - j)) := by
  have hc : j = 0 ∨ j = 1 ∨ j = 2 ∨ j = 3 ∨ j = 4 ∨ j = 5 ∨ j = 6 ∨ j = 7 := by omega
  rcases hc with rfl | rfl | rfl | rfl | rfl | rfl | rfl | rfl <;> rfl
theorem digs_get : ∀ (c : List Nat) (i : Nat), i / 8 < c.length → (digs c)[i]? = some ((c.getD (i / 8) 0).testBit (7 - i % 8))
  | [], i, h => by simp at h
  | x :: l, i, h => by
    unfold digs
    by_cases hi : i < 8
    · rw [List.getElem?_append_left (by simp [dig8]; omega), show i / 8 = 0 by omega, show i % 8 = i by omega, dig8_get x i hi]
      rfl
    · rw [List.getElem?_append_right (by simp [dig8]; omega)]
      have e : (dig8 x).length = 8 := rfl
      have h2 : (i - 8) / 8 < l.length := by simp at h; omega
      rw [e, digs_get l (i - 8) h2, show (i - 8) % 8 = i % 8 by omega, show i / 8 = (i - 8) / 8 + 1 by omega]
      rfl
theorem digs_take : ∀ (c : List Nat) (p : Nat), (digs c).take (8 * p) = digs (c.take p)
  | [], p => by simp [digs]
  | x :: l, 0 => by simp [digs]
  | x :: l, p + 1 => by
    rw [List.take_succ_cons]
    unfold digs
    have e : (dig8 x).length = 8 := rfl
    rw [List.take_append, e, show 8 * (p + 1) - 8 = 8 * p by omega, digs_take l p, List.take_of_length_le (by rw [e]; omega)]
theorem digs_drop_get {c : List Nat} {i : Nat} (h : i / 8 < c.length) : (digs c).drop i = (c.getD (i / 8) 0).testBit (7 - i % 8) :: (digs c).drop (i + 1) := by
  have h1 := digs_get c i h
  have hl : i < (digs c).length := by rw [digs_len]; omega
  rw [List.drop_eq_getElem_cons hl]
  rw [List.getElem?_eq_getElem hl] at h1
  rw [Option.some.inj h1]
theorem digs_drop_end {c : List Nat} {i : Nat} (h : ¬ i / 8 < c.length) : (digs c).drop i = [] := List.drop_eq_nil_of_le (by rw [digs_len]; omega)
theorem dig8_inj {x y : Nat} (hx : x < 256) (hy : y < 256) (h : dig8 x = dig8 y) : x = y := by
  unfold dig8 at h
  simp only [List.cons.injEq, and_true] at h
  obtain ⟨h7, h6, h5, h4, h3, h2, h1, h0⟩ := h
  apply Nat.eq_of_testBit_eq
  intro i
  by_cases hi : i < 8
  · have hc : i = 0 ∨ i = 1 ∨ i = 2 ∨ i = 3 ∨ i = 4 ∨ i = 5 ∨ i = 6 ∨ i = 7 := by omega
    rcases hc with rfl | rfl | rfl | rfl | rfl | rfl | rfl | rfl <;> assumption
  · rw [bit_ge (n := 8) hx (by omega), bit_ge (n := 8) hy (by omega)]
theorem digs_inj : ∀ (a b : List Nat), (∀ x ∈ a, x < 256) → (∀ x ∈ b, x < 256) → digs a = digs b → a = b
  | [], [], _, _, _ => rfl
  | [], y :: m, _, _, h => by simp [digs, dig8] at h
  | x :: l, [], _, _, h => by simp [digs, dig8] at h
  | x :: l, y :: m, h1, h2, h => by
    unfold digs at h
    have e := List.append_inj h rfl
    rw [dig8_inj (h1 x (by simp)) (h2 y (by simp)) e.1, digs_inj l m (fun z hz => h1 z (by simp [hz])) (fun z hz => h2 z (by simp [hz])) e.2]
/-- a digit is laid where none was -/
def orD (x j : Nat) (d : Bool) : Nat := x ||| d.toNat * 2 ^ (7 - j)
theorem orD_bit (x j : Nat) (d : Bool) (hj : j < 8) (i : Nat) : (orD x j d).testBit i = (x.testBit i || (d && decide (i = 7 - j))) := by
  unfold orD
  rw [Nat.testBit_or]
  cases d with
  | false => simp
  | true =>
    simp only [Bool.toNat_true, Nat.one_mul, Bool.true_and]
    rw [Nat.testBit_two_pow]
    congr 1
    by_cases h : 7 - j = i
    · simp [h]
    · have : ¬ i = 7 - j := fun e => h e.symm
      simp [h, this]
theorem orD_lt {x j : Nat} {d : Bool} (hx : x < 256) (hj : j < 8) : orD x j d < 256 := by
  refine lt_of_bits (n := 8) fun i hi => ?_
  rw [orD_bit x j d hj, bit_ge (n := 8) hx hi]
  have : ¬ i = 7 - j := by omega
  simp [this]
theorem dig8_or {x j : Nat} {d : Bool} (hj : j < 8) (h : x.testBit (7 - j) = false) : dig8 (orD x j d) = (dig8 x).set j d := by
  apply List.ext_getElem?
  intro i
  by_cases hi : i < 8
  · rw [dig8_get _ _ hi, List.getElem?_set, orD_bit _ _ _ hj]
    have e : (dig8 x).length = 8 := rfl
    by_cases hij : j = i
    · subst hij
      rw [if_pos rfl, if_pos (by rw [e]; exact hj), h]
      simp
    · have : ¬ 7 - i = 7 - j := by omega
      rw [if_neg hij, dig8_get _ _ hi]
      simp [this]
  · rw [List.getElem?_eq_none (by show 8 ≤ i; omega), List.getElem?_eq_none (by rw [List.length_set]; show 8 ≤ i; omega)]
theorem digs_set : ∀ (c : List Nat) (k j : Nat) (d : Bool), k < c.length → j < 8 → (c.getD k 0).testBit (7 - j) = false → digs (c.set k (orD (c.getD k 0) j d)) = (digs c).set (8 * k + j) d
  | [], k, j, d, h, _, _ => by simp at h
  | x :: l, 0, j, d, h, hj, hb => by
    have e : (dig8 x).length = 8 := rfl
    have hb : x.testBit (7 - j) = false := hb
    show dig8 (orD x j d) ++ digs l = (dig8 x ++ digs l).set (8 * 0 + j) d
    rw [dig8_or hj hb, Nat.mul_zero, Nat.zero_add, List.set_append_left _ _ (by rw [e]; exact hj)]
  | x :: l, k + 1, j, d, h, hj, hb => by
    have e : (dig8 x).length = 8 := rfl
    show dig8 x ++ digs (l.set k (orD (l.getD k 0) j d)) = (dig8 x ++ digs l).set (8 * (k + 1) + j) d
    rw [digs_set l k j d (by simpa using h) hj hb, List.set_append_right _ _ (by rw [e]; omega), e, show 8 * (k + 1) + j - 8 = 8 * k + j by omega]
/-- what a writer holds behind the digits D -/
def Wrt (c : List Nat) (D : List Bool) : Prop := (∀ x ∈ c, x < 256) ∧ digs c = D ++ List.replicate (fil D.length) false
theorem Wrt.len {c : List Nat} {D : List Bool} (h : Wrt c D) : c.length = (D.length + 7) / 8 := by
  have := congrArg List.length h.2
  rw [digs_len, List.length_append, List.length_replicate] at this
  unfold fil at this
  omega
theorem Wrt.unique {a b : List Nat} {D : List Bool} (h : Wrt a D) (k : Wrt b D) : a = b := digs_inj a b h.1 k.1 (h.2.trans k.2.symm)
theorem wrt_nil : Wrt [] [] := ⟨by simp, rfl⟩
theorem Wrt.grow {c : List Nat} {D : List Bool} (h : Wrt c D) (h8 : D.length % 8 = 0) : digs (c ++ [0]) = D ++ List.replicate 8 false ∧ ∀ x ∈ c ++ [0], x < 256 := by
  refine ⟨?_, fun x hx => ?_⟩
  · have e : fil D.length = 0 := by unfold fil; omega
    rw [digs_app, h.2, e]
    simp [digs, dig8]
  · simp at hx
    rcases hx with hx | rfl
    · exact h.1 x hx
    · decide
/-- a digit more, where there is room -/
theorem wrt_put {c : List Nat} {D : List Bool} {m : Nat} (hc : ∀ x ∈ c, x < 256) (hd : digs c = D ++ List.replicate (m + 1) false) (hm : m < 8) (d : Bool) : D.length / 8 < c.length ∧ (c.getD (D.length / 8) 0).testBit (7 - D.length % 8) = false ∧ Wrt (c.set (D.length / 8) (orD (c.getD (D.length / 8) 0) (D.length % 8) d)) (D ++ [d]) := by
  have hl := congrArg List.length hd
  rw [digs_len, List.length_append, List.length_replicate] at hl
  have h1 : D.length / 8 < c.length := by omega
  have hb := digs_get c D.length h1
  rw [hd, List.getElem?_append_right (Nat.le_refl _)] at hb
  simp [List.replicate_succ] at hb
  have hb' : (c.getD (D.length / 8) 0).testBit (7 - D.length % 8) = false := by simpa using hb
  refine ⟨h1, hb', fun x hx => ?_, ?_⟩
  · rcases List.mem_or_eq_of_mem_set hx with h | h
    · exact hc x h
    · subst h
      refine orD_lt ?_ (by omega)
      have : c.getD (D.length / 8) 0 = c[D.length / 8] := by simp [List.getD, h1]
      rw [this]
      exact hc _ (List.getElem_mem h1)
  · rw [digs_set c _ _ d h1 (by omega) hb', hd, show 8 * (D.length / 8) + D.length % 8 = D.length by omega, List.set_append_right _ _ (Nat.le_refl _), Nat.sub_self, List.replicate_succ, List.set_cons_zero]
    have e : fil (D ++ [d]).length = m := by
      unfold fil
      simp
      omega
    rw [e]
    simp
end Go.Proofs.YtedhohamdbplhaaDoor.B
