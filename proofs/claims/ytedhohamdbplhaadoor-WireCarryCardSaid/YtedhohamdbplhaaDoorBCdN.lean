import Derived.Test.YtedhohamdbplhaaDoorBCdM
namespace Go.Proofs.YtedhohamdbplhaaDoor.B
set_option linter.unusedVariables false
set_option linter.unusedSimpArgs false

/-- where the run that begins at p ends -/
def ren (B n p : Nat) : Nat := (fnd (fun i => B.testBit i != B.testBit p) p (n - p)).getD n
theorem ren_spec {B n p : Nat} (h : p < n) : p < ren B n p ∧ ren B n p ≤ n ∧ (∀ j, p ≤ j → j < ren B n p → B.testBit j = B.testBit p) ∧ (ren B n p < n → B.testBit (ren B n p) = !B.testBit p) := by
  unfold ren
  cases hf : fnd (fun i => B.testBit i != B.testBit p) p (n - p) with
  | none =>
    have h1 := fnd_isNone _ _ hf
    simp only [Option.getD]
    refine ⟨h, Nat.le_refl _, fun j a b => ?_, fun hh => by omega⟩
    have := h1 j a (by omega)
    simpa using this
  | some q =>
    obtain ⟨h1, h2, h3, h4⟩ := fnd_is _ _ _ hf
    simp only [Option.getD]
    have hne : p ≠ q := fun e => by subst e; simp at h3
    refine ⟨by omega, by omega, fun j a b => by simpa using h4 j a b, fun hh => ?_⟩
    have : B.testBit q ≠ B.testBit p := by simpa using h3
    cases h5 : B.testBit q <;> cases h6 : B.testBit p <;> simp_all
theorem ren_unique {B n p q : Nat} (h1 : p < q) (h2 : q ≤ n) (h3 : ∀ j, p ≤ j → j < q → B.testBit j = B.testBit p) (h4 : q < n → B.testBit q = !B.testBit p) : ren B n p = q := by
  obtain ⟨a1, a2, a3, a4⟩ := ren_spec (B := B) (n := n) (p := p) (by omega)
  rcases Nat.lt_trichotomy (ren B n p) q with hh | hh | hh
  · have e1 := h3 _ (by omega) hh
    have e2 := a4 (by omega)
    rw [e1] at e2
    cases h5 : B.testBit p <;> simp [h5] at e2
  · exact hh
  · have e1 := a3 q (by omega) hh
    have e2 := h4 (by omega)
    rw [e1] at e2
    cases h5 : B.testBit p <;> simp [h5] at e2
/-- the stretches from p on, as digits -/
def encS (B n : Nat) : Nat → Nat → List Bool
  | 0, _ => []
  | f + 1, p => if p < n then gam (ren B n p - p) ++ encS B n f (ren B n p) else []
theorem encS_fuel (B n : Nat) : ∀ f g p, n - p ≤ f → n - p ≤ g → encS B n f p = encS B n g p
  | 0, g, p, h1, h2 => by
    have : ¬ p < n := by omega
    cases g with
    | zero => rfl
    | succ g => simp [encS, this]
  | f + 1, 0, p, h1, h2 => by
    have : ¬ p < n := by omega
    simp [encS, this]
  | f + 1, g + 1, p, h1, h2 => by
    unfold encS
    split
    · rename_i hp
      have := ren_spec (B := B) hp
      rw [encS_fuel B n f g _ (by omega) (by omega)]
    · rfl
def encP (B n p : Nat) : List Bool := encS B n (n - p) p
theorem encP_end {B n p : Nat} (h : ¬ p < n) : encP B n p = [] := by
  unfold encP
  rw [show n - p = 0 by omega]
  rfl
theorem encP_step {B n p : Nat} (h : p < n) : encP B n p = gam (ren B n p - p) ++ encP B n (ren B n p) := by
  have := ren_spec (B := B) h
  unfold encP
  rw [show n - p = (n - p - 1) + 1 by omega]
  conv => lhs; unfold encS
  rw [if_pos h, encS_fuel B n _ (n - ren B n p) _ (by omega) (by omega)]
theorem mod_bits (B p i : Nat) : (B % 2 ^ p).testBit i = (decide (i < p) && B.testBit i) := by rw [Nat.testBit_mod_two_pow]
theorem low_set {B n p q : Nat} (h1 : p ≤ q) (h3 : ∀ j, p ≤ j → j < q → B.testBit j = true) : setR (B % 2 ^ p) p q = B % 2 ^ q := by
  apply Nat.eq_of_testBit_eq
  intro i
  rw [testBit_setR, mod_bits, mod_bits]
  by_cases a : i < p
  · have : i < q := by omega
    simp [a, this]
    omega
  · by_cases b : i < q
    · have := h3 i (by omega) b
      simp [a, b, this]
      omega
    · simp [a, b]
theorem low_clr {B n p q : Nat} (h1 : p ≤ q) (h3 : ∀ j, p ≤ j → j < q → B.testBit j = false) : B % 2 ^ p = B % 2 ^ q := by
  apply Nat.eq_of_testBit_eq
  intro i
  rw [mod_bits, mod_bits]
  by_cases a : i < p
  · have : i < q := by omega
    simp [a, this]
  · by_cases b : i < q
    · have := h3 i (by omega) b
      simp [a, b, this]
    · simp [a, b]
theorem rd_of {B n : Nat} (hB : B < 2 ^ n) (hn : n ≤ 65536) (rest : List Bool) : ∀ f p s, n - p < f → p ≤ n → (p < n → B.testBit p = s) → rdR n f p s (B % 2 ^ p) (encP B n p ++ rest) = ((encP B n p).length, some B)
  | 0, p, s, h1, h2, h3 => by omega
  | f + 1, p, s, h1, h2, h3 => by
    unfold rdR
    by_cases hp : p < n
    · obtain ⟨a1, a2, a3, a4⟩ := ren_spec (B := B) hp
      rw [if_pos hp, encP_step hp, List.append_assoc, bndR_some (st_of (by omega) (by omega) (by omega) _)]
      rw [show p + (ren B n p - p) = ren B n p by omega]
      have hs := h3 hp
      have hw : (if s = true then setR (B % 2 ^ p) p (ren B n p) else B % 2 ^ p) = B % 2 ^ ren B n p := by
        cases s with
        | true => rw [if_pos rfl]; exact low_set (n := n) (by omega) fun j x y => by rw [a3 j x y, hs]
        | false => rw [if_neg (by simp)]; exact low_clr (n := n) (by omega) fun j x y => by rw [a3 j x y, hs]
      rw [hw, List.drop_left]
      have ih := rd_of hB hn rest f (ren B n p) (!s) (by omega) a2 (fun h => by rw [a4 h, hs])
      rw [ih]
      simp
    · have : p = n := by omega
      subst this
      rw [if_neg hp, encP_end hp, Nat.mod_eq_of_lt hB]
      rfl
theorem rd_is {n : Nat} : ∀ f p s B0 ds c B, B0 < 2 ^ p → p ≤ n → rdR n f p s B0 ds = (c, some B) → B % 2 ^ p = B0 ∧ B < 2 ^ n ∧ (p < n → B.testBit p = s) ∧ ds.take c = encP B n p ∧ c = (encP B n p).length
  | 0, p, s, B0, ds, c, B, h0, h1, h => by simp [rdR, badR] at h
  | f + 1, p, s, B0, ds, c, B, h0, h1, h => by
    unfold rdR at h
    by_cases hp : p < n
    · rw [if_pos hp] at h
      obtain ⟨c1, x, c2, e1, e2, rfl⟩ := bndR_is h
      obtain ⟨g1, g2, g3, g4⟩ := st_is (by omega) e1
      have hb0 : (if s = true then setR B0 p (p + x) else B0) < 2 ^ (p + x) := by
        have hlt : B0 < 2 ^ (p + x) := Nat.lt_of_lt_of_le h0 (Nat.pow_le_pow_right (by decide) (by omega))
        split
        · exact setR_lt hlt (Nat.le_refl _)
        · exact hlt
      obtain ⟨k1, k2, k3, k4, k5⟩ := rd_is f (p + x) (!s) _ _ _ _ hb0 (by omega) e2
      have hbit : ∀ j, p ≤ j → j < p + x → B.testBit j = s := by
        intro j a b
        have := mod_bits B (p + x) j
        rw [k1] at this
        simp only [b, decide_true, Bool.true_and] at this
        rw [← this]
        cases s with
        | true => rw [if_pos rfl, testBit_setR]; simp [a, b]
        | false => rw [if_neg (by simp)]; exact bit_ge h0 a
      have hr : ren B n p = p + x := ren_unique (by omega) (by omega) (fun j a b => by rw [hbit j a b, hbit p (by omega) (by omega)]) (fun hh => by rw [k3 hh, hbit p (by omega) (by omega)])
      refine ⟨?_, k2, fun _ => hbit p (by omega) (by omega), ?_, ?_⟩
      · have e : B % 2 ^ p = B % 2 ^ (p + x) % 2 ^ p := by
          rw [Nat.mod_mod_of_dvd _ (Nat.pow_dvd_pow 2 (by omega))]
        rw [e, k1]
        apply Nat.eq_of_testBit_eq
        intro i
        rw [mod_bits]
        by_cases a : i < p
        · cases s with
          | true => rw [if_pos rfl, testBit_setR]; simp [a]; omega
          | false => simp [a]
        · rw [bit_ge h0 (by omega)]; simp [a]
      · rw [encP_step hp, hr, show p + x - p = x by omega, List.take_add, g1, k4]
      · rw [encP_step hp, hr, show p + x - p = x by omega, List.length_append, ← g2, ← k5]
    · have : p = n := by omega
      subst this
      rw [if_neg hp] at h
      simp [retR] at h
      obtain ⟨rfl, rfl⟩ := h
      exact ⟨Nat.mod_eq_of_lt h0, h0, fun hh => absurd hh hp, by rw [encP_end hp]; rfl, by rw [encP_end hp]; rfl⟩
theorem pad_of (rest : List Bool) : ∀ j, padR j (List.replicate j false ++ rest) = (j, some ())
  | 0 => rfl
  | j + 1 => by
    show bndR dgR _ (false :: (List.replicate j false ++ rest)) = _
    rw [bndR_some (c := 1) (a := false) rfl, if_neg (by simp)]
    show (1 + (padR j (List.replicate j false ++ rest)).1, (padR j (List.replicate j false ++ rest)).2) = _
    rw [pad_of rest j]
    show (1 + j, some ()) = _
    rw [Nat.add_comm]
theorem pad_is : ∀ j ds c u, padR j ds = (c, some u) → c = j ∧ ds.take j = List.replicate j false
  | 0, ds, c, u, h => by
    simp [padR, retR] at h
    exact ⟨h.symm, rfl⟩
  | j + 1, ds, c, u, h => by
    obtain ⟨c1, d, c2, e1, e2, rfl⟩ := bndR_is h
    obtain ⟨l, rfl, rfl⟩ := dgR_is e1
    split at e2
    · simp [badR] at e2
    · rename_i hd
      obtain ⟨h1, h2⟩ := pad_is j _ _ _ e2
      have e : List.drop 1 (d :: l) = l := rfl
      rw [e] at h2
      have : d = false := by simpa using hd
      subst this
      exact ⟨by omega, by rw [List.take_succ_cons, h2, List.replicate_succ]⟩
/-- a bitmap's digits; filled up to whole bytes -/
def encD (B n : Nat) : List Bool := B.testBit 0 :: encP B n 0
def fil (c : Nat) : Nat := (8 - c % 8) % 8
def encF (B n : Nat) : List Bool := encD B n ++ List.replicate (fil (encD B n).length) false
theorem encF_len (B n : Nat) : (encF B n).length % 8 = 0 ∧ (encF B n).length = (encD B n).length + fil (encD B n).length := by
  unfold encF fil
  simp
  omega
theorem dec_of {B n : Nat} (h1 : 1 ≤ n) (hB : B < 2 ^ n) (hn : n ≤ 65536) (rest : List Bool) : decR n (encF B n ++ rest) = ((encF B n).length, some B) := by
  have hr := rd_of hB hn (List.replicate (fil (encD B n).length) false ++ rest) (n + 1) 0 (B.testBit 0) (by omega) (by omega) (fun _ => rfl)
  rw [Nat.pow_zero, Nat.mod_one] at hr
  have h0 : (bndR dgR fun d _ => rdR n (n + 1) 0 d 0) (encF B n ++ rest) = ((encD B n).length, some B) := by
    have e : encF B n ++ rest = B.testBit 0 :: (encP B n 0 ++ (List.replicate (fil (encD B n).length) false ++ rest)) := by simp [encF, encD]
    rw [e, bndR_some (c := 1) (a := B.testBit 0) rfl]
    show (1 + (rdR n (n + 1) 0 (B.testBit 0) 0 (encP B n 0 ++ _)).1, (rdR n (n + 1) 0 (B.testBit 0) 0 (encP B n 0 ++ _)).2) = _
    rw [hr]
    show (1 + (encP B n 0).length, some B) = _
    rw [encD, List.length_cons, Nat.add_comm]
  unfold decR
  rw [bndR_some h0]
  have hd : (encF B n ++ rest).drop (encD B n).length = List.replicate (fil (encD B n).length) false ++ rest := by
    unfold encF
    rw [List.append_assoc, List.drop_left]
  rw [hd]
  have hp := pad_of rest (fil (encD B n).length)
  show ((encD B n).length + (bndR (padR (fil (encD B n).length)) _ _).1, (bndR (padR (fil (encD B n).length)) _ _).2) = _
  rw [bndR_some hp]
  show ((encD B n).length + (fil (encD B n).length + 0), some B) = _
  rw [(encF_len B n).2, Nat.add_zero]
theorem dec_is {n : Nat} (h1 : 1 ≤ n) {ds : List Bool} {c B : Nat} (h : decR n ds = (c, some B)) : B < 2 ^ n ∧ ds.take c = encF B n ∧ c = (encF B n).length := by
  obtain ⟨c1, B', c2, e1, e2, rfl⟩ := bndR_is h
  obtain ⟨c3, d, c4, e3, e4, rfl⟩ := bndR_is e1
  obtain ⟨l, rfl, rfl⟩ := dgR_is e3
  obtain ⟨c5, u, c6, e5, e6, rfl⟩ := bndR_is e2
  simp [retR] at e6
  obtain ⟨rfl, rfl⟩ := e6
  obtain ⟨k1, k2, k3, k4, k5⟩ := rd_is _ _ _ _ _ _ _ (by simp) (by omega) e4
  obtain ⟨g1, g2⟩ := pad_is _ _ _ _ e5
  have e : List.drop 1 (d :: l) = l := rfl
  rw [e] at k4
  have hl : 1 + c4 = (encD B' n).length := by rw [encD, List.length_cons, ← k5, Nat.add_comm]
  have hd : (d :: l).take (1 + c4) = encD B' n := by
    rw [Nat.add_comm, List.take_succ_cons, k4, encD]
    congr 1
    exact (k3 h1).symm
  refine ⟨k2, ?_, ?_⟩
  · rw [Nat.add_zero, List.take_add, hd, g1, g2, hl]
    rfl
  · rw [(encF_len B' n).2, g1, hl]
    rfl
end Go.Proofs.YtedhohamdbplhaaDoor.B
