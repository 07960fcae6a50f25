import Derived.Test.YtedhohamdbplhaaDoorBMath
namespace Go.Proofs.YtedhohamdbplhaaDoor.B
set_option linter.unusedVariables false
set_option linter.unusedSimpArgs false

/-- readers of digits: how many were taken (one more where there is none), and what came of it -/
abbrev Rd (α : Type) := List Bool → Nat × Option α
def dgR : Rd Bool
  | [] => (1, none)
  | d :: _ => (1, some d)
def retR {α : Type} (a : α) : Rd α := fun _ => (0, some a)
def badR {α : Type} : Rd α := fun _ => (0, none)
def bndR {α β : Type} (F : Rd α) (G : α → Nat → Rd β) : Rd β := fun ds =>
  match (F ds).2 with
  | none => ((F ds).1, none)
  | some a => ((F ds).1 + (G a (F ds).1 (ds.drop (F ds).1)).1, (G a (F ds).1 (ds.drop (F ds).1)).2)
theorem bndR_none {α β : Type} {F : Rd α} {G : α → Nat → Rd β} {ds : List Bool} {c : Nat} (h : F ds = (c, none)) : bndR F G ds = (c, none) := by
  unfold bndR; rw [h]
theorem bndR_some {α β : Type} {F : Rd α} {G : α → Nat → Rd β} {ds : List Bool} {c : Nat} {a : α} (h : F ds = (c, some a)) : bndR F G ds = (c + (G a c (ds.drop c)).1, (G a c (ds.drop c)).2) := by
  unfold bndR; rw [h]
theorem bndR_is {α β : Type} {F : Rd α} {G : α → Nat → Rd β} {ds : List Bool} {c : Nat} {b : β} (h : bndR F G ds = (c, some b)) : ∃ c1 a c2, F ds = (c1, some a) ∧ G a c1 (ds.drop c1) = (c2, some b) ∧ c = c1 + c2 := by
  cases hF : F ds with
  | mk c1 o =>
    cases o with
    | none => rw [bndR_none hF] at h; simp at h
    | some a =>
      rw [bndR_some hF] at h
      simp only [Prod.mk.injEq] at h
      exact ⟨c1, a, _, rfl, Prod.ext rfl h.2, h.1.symm⟩
structure Good {α : Type} (F : Rd α) : Prop where
  le : ∀ ds, (F ds).1 ≤ ds.length + 1
  sle : ∀ ds c a, F ds = (c, some a) → c ≤ ds.length
  inn : ∀ ds m, (F ds).1 ≤ m → F (ds.take m) = F ds
  out : ∀ ds m, m < (F ds).1 → m ≤ ds.length → F (ds.take m) = (m + 1, none)
theorem good_dg : Good dgR := by
  refine ⟨fun ds => ?_, fun ds c a h => ?_, fun ds m h => ?_, fun ds m h1 h2 => ?_⟩
  · cases ds <;> simp [dgR]
  · cases ds with
    | nil => simp [dgR] at h
    | cons d l => simp [dgR] at h; simp; omega
  · cases ds with
    | nil => simp
    | cons d l =>
      simp [dgR] at h
      obtain ⟨k, rfl⟩ : ∃ k, m = k + 1 := ⟨m - 1, by omega⟩
      simp [dgR]
  · cases ds with
    | nil => simp at h2; subst h2; simp [dgR]
    | cons d l =>
      simp [dgR] at h1
      subst h1
      simp [dgR]
theorem good_ret {α : Type} (a : α) : Good (retR a) := ⟨fun ds => by simp [retR], fun ds c b h => by simp [retR] at h; omega, fun ds m h => rfl, fun ds m h => by simp [retR] at h⟩
theorem good_bad {α : Type} : Good (badR : Rd α) := ⟨fun ds => by simp [badR], fun ds c b h => by simp [badR] at h, fun ds m h => rfl, fun ds m h => by simp [badR] at h⟩
theorem good_bnd {α β : Type} {F : Rd α} {G : α → Nat → Rd β} (hF : Good F) (hG : ∀ a c, Good (G a c)) : Good (bndR F G) := by
  refine ⟨fun ds => ?_, fun ds c b h => ?_, fun ds m h => ?_, fun ds m h1 h2 => ?_⟩
  · cases h : F ds with
    | mk c o =>
      cases o with
      | none => rw [bndR_none h]; have := hF.le ds; rw [h] at this; exact this
      | some a =>
        rw [bndR_some h]
        have h1 := hF.sle ds c a h
        have h2 := (hG a c).le (ds.drop c)
        rw [List.length_drop] at h2
        show c + _ ≤ _
        omega
  · obtain ⟨c1, a, c2, e1, e2, rfl⟩ := bndR_is h
    have h1 := hF.sle ds c1 a e1
    have h2 := (hG a c1).sle _ _ _ e2
    rw [List.length_drop] at h2
    omega
  · cases e : F ds with
    | mk c o =>
      cases o with
      | none =>
        rw [bndR_none e] at h ⊢
        have := hF.inn ds m (by rw [e]; exact h)
        rw [e] at this
        rw [bndR_none this]
      | some a =>
        rw [bndR_some e] at h ⊢
        have h' : c + (G a c (ds.drop c)).1 ≤ m := h
        have := hF.inn ds m (by rw [e]; show c ≤ m; omega)
        rw [e] at this
        rw [bndR_some this, List.drop_take, (hG a c).inn _ _ (by omega)]
  · cases e : F ds with
    | mk c o =>
      cases o with
      | none =>
        rw [bndR_none e] at h1
        have := hF.out ds m (by rw [e]; exact h1) h2
        rw [bndR_none this]
      | some a =>
        rw [bndR_some e] at h1
        have h' : m < c + (G a c (ds.drop c)).1 := h1
        by_cases hm : m < c
        · have := hF.out ds m (by rw [e]; exact hm) h2
          rw [bndR_none this]
        · have := hF.inn ds m (by rw [e]; show c ≤ m; omega)
          rw [e] at this
          have h3 := (hG a c).out (ds.drop c) (m - c) (by omega) (by rw [List.length_drop]; omega)
          rw [bndR_some this, List.drop_take, h3]
          show (c + (m - c + 1), none) = (m + 1, none)
          congr 1
          omega
theorem Good.pre {α : Type} {F : Rd α} (h : Good F) {ds es : List Bool} (he : es.take (F ds).1 = ds.take (F ds).1) (hl : (F ds).1 ≤ es.length) : F es = F ds := by
  have h1 := h.inn ds _ (Nat.le_refl _)
  rw [← he] at h1
  by_cases hc : (F es).1 ≤ (F ds).1
  · rw [← h.inn es _ hc, h1]
  · have := h.out es (F ds).1 (by omega) hl
    rw [h1] at this
    have e := congrArg Prod.fst this
    simp at e
/-- zeros ahead of a one: how many -/
def zerR (most : Nat) : Nat → Nat → Rd Nat
  | 0, _ => badR
  | f + 1, k => bndR dgR fun d _ => if d = true then retR k else if most < 2 ^ (k + 1) then badR else zerR most f (k + 1)
def loR (most : Nat) : Nat → Nat → Rd Nat
  | 0, x => retR x
  | k + 1, x => bndR dgR fun d _ => if most < x + d.toNat * 2 ^ k then badR else loR most k (x + d.toNat * 2 ^ k)
def stR (most : Nat) : Rd Nat := bndR (zerR most 20 0) fun k _ => loR most k (2 ^ k)
def rdR (n : Nat) : Nat → Nat → Bool → Nat → Rd Nat
  | 0, _, _, _ => badR
  | f + 1, p, s, B => if p < n then bndR (stR (n - p)) fun x _ => rdR n f (p + x) (!s) (if s then setR B p (p + x) else B) else retR B
def padR : Nat → Rd Unit
  | 0 => retR ()
  | j + 1 => bndR dgR fun d _ => if d = true then badR else padR j
def decR (n : Nat) : Rd Nat := bndR (bndR dgR fun d _ => rdR n (n + 1) 0 d 0) fun B c => bndR (padR ((8 - c % 8) % 8)) fun _ _ => retR B
theorem good_zer (most : Nat) : ∀ f k, Good (zerR most f k)
  | 0, k => good_bad
  | f + 1, k => good_bnd good_dg fun d c => by
    split
    · exact good_ret _
    · split
      · exact good_bad
      · exact good_zer most f _
theorem good_lo (most : Nat) : ∀ k x, Good (loR most k x)
  | 0, x => good_ret _
  | k + 1, x => good_bnd good_dg fun d c => by
    split
    · exact good_bad
    · exact good_lo most k _
theorem good_st (most : Nat) : Good (stR most) := good_bnd (good_zer _ _ _) fun _ _ => good_lo _ _ _
theorem good_rd (n : Nat) : ∀ f p s B, Good (rdR n f p s B)
  | 0, _, _, _ => good_bad
  | f + 1, p, s, B => by
    unfold rdR
    split
    · exact good_bnd (good_st _) fun _ _ => good_rd n f _ _ _
    · exact good_ret _
theorem good_pad : ∀ j, Good (padR j)
  | 0 => good_ret _
  | j + 1 => good_bnd good_dg fun d c => by
    split
    · exact good_bad
    · exact good_pad j
theorem good_dec (n : Nat) : Good (decR n) := good_bnd (good_bnd good_dg fun _ _ => good_rd _ _ _ _ _) fun _ _ => good_bnd (good_pad _) fun _ _ => good_ret _
theorem dgR_is {ds : List Bool} {c : Nat} {d : Bool} (h : dgR ds = (c, some d)) : ∃ l, ds = d :: l ∧ c = 1 := by
  cases ds with
  | nil => simp [dgR] at h
  | cons e l => simp [dgR] at h; exact ⟨l, by rw [h.2], h.1.symm⟩
/-- the digits of a length -/
def gamL : Nat → Nat → List Bool
  | 0, _ => []
  | k + 1, x => x.testBit k :: gamL k x
def gam (x : Nat) : List Bool := List.replicate x.log2 false ++ true :: gamL x.log2 x
theorem gamL_len : ∀ k x, (gamL k x).length = k
  | 0, x => rfl
  | k + 1, x => by simp [gamL, gamL_len k x]
theorem gam_len (x : Nat) : (gam x).length = 2 * x.log2 + 1 := by simp [gam, gamL_len]; omega
theorem zer_of (most : Nat) (rest : List Bool) : ∀ j f k, j < f → 2 ^ (k + j) ≤ most → zerR most f k (List.replicate j false ++ true :: rest) = (j + 1, some (k + j))
  | 0, f + 1, k, h, hm => by
    show bndR dgR _ (true :: rest) = _
    rw [bndR_some (c := 1) (a := true) rfl, if_pos rfl]
    rfl
  | j + 1, f + 1, k, h, hm => by
    have h1 : ¬ most < 2 ^ (k + 1) := by
      have : 2 ^ (k + 1) ≤ 2 ^ (k + (j + 1)) := Nat.pow_le_pow_right (by decide) (by omega)
      omega
    have ih := zer_of most rest j f (k + 1) (by omega) (by rw [show k + 1 + j = k + (j + 1) by omega]; exact hm)
    show bndR dgR _ (false :: (List.replicate j false ++ true :: rest)) = _
    rw [bndR_some (c := 1) (a := false) rfl, if_neg (by simp), if_neg h1]
    show (1 + (zerR most f (k + 1) (List.replicate j false ++ true :: rest)).1, (zerR most f (k + 1) (List.replicate j false ++ true :: rest)).2) = _
    rw [ih]
    show (1 + (j + 1), some (k + 1 + j)) = (j + 1 + 1, some (k + (j + 1)))
    rw [show 1 + (j + 1) = j + 1 + 1 by omega, show k + 1 + j = k + (j + 1) by omega]
theorem bit_step (x k : Nat) : x / 2 ^ (k + 1) * 2 ^ (k + 1) + (x.testBit k).toNat * 2 ^ k = x / 2 ^ k * 2 ^ k := by
  have h1 : x / 2 ^ (k + 1) = x / 2 ^ k / 2 := by rw [Nat.pow_succ, Nat.div_div_eq_div_mul]
  have h2 : (x.testBit k).toNat = x / 2 ^ k % 2 := by rw [Nat.toNat_testBit]
  rw [h1, h2, Nat.pow_succ]
  generalize 2 ^ k = t
  generalize x / t = y
  have : y = y / 2 * 2 + y % 2 := by omega
  calc y / 2 * (t * 2) + y % 2 * t = (y / 2 * 2 + y % 2) * t := by rw [Nat.add_mul, Nat.mul_assoc, Nat.mul_comm t 2]
    _ = y * t := by rw [← this]
theorem lo_of (most x : Nat) (hx : x ≤ most) (rest : List Bool) : ∀ k, loR most k (x / 2 ^ k * 2 ^ k) (gamL k x ++ rest) = (k, some x)
  | 0 => by simp [loR, retR]
  | k + 1 => by
    have h1 := bit_step x k
    have h2 : x / 2 ^ k * 2 ^ k ≤ x := Nat.div_mul_le_self _ _
    show bndR dgR _ (x.testBit k :: (gamL k x ++ rest)) = _
    rw [bndR_some (c := 1) (a := x.testBit k) rfl, h1, if_neg (by omega)]
    show (1 + (loR most k (x / 2 ^ k * 2 ^ k) (gamL k x ++ rest)).1, (loR most k (x / 2 ^ k * 2 ^ k) (gamL k x ++ rest)).2) = _
    rw [lo_of most x hx rest k]
    show (1 + k, some x) = _
    rw [Nat.add_comm]
theorem st_of {most x : Nat} (h1 : 1 ≤ x) (hx : x ≤ most) (hm : most ≤ 65536) (rest : List Bool) : stR most (gam x ++ rest) = ((gam x).length, some x) := by
  have h0 : x ≠ 0 := by omega
  have a1 := Nat.log2_self_le h0
  have a2 := Nat.lt_log2_self (n := x)
  have a3 : x.log2 < 20 := by
    have : 2 ^ x.log2 ≤ 2 ^ 16 := by omega
    have := (Nat.pow_le_pow_iff_right (by decide)).1 this
    omega
  rw [gam_len]
  generalize hk : x.log2 = k at *
  have e : gam x ++ rest = List.replicate k false ++ true :: (gamL k x ++ rest) := by simp [gam, hk]
  have hz := zer_of most (gamL k x ++ rest) k 20 0 a3 (by rw [Nat.zero_add]; omega)
  rw [Nat.zero_add] at hz
  rw [e]
  unfold stR
  rw [bndR_some hz]
  have hd : (List.replicate k false ++ true :: (gamL k x ++ rest)).drop (k + 1) = gamL k x ++ rest := by
    rw [List.drop_append]
    simp
  have hv : x / 2 ^ k * 2 ^ k = 2 ^ k := by
    have : x / 2 ^ k = 1 := by
      refine Nat.div_eq_of_lt_le (by omega) ?_
      rw [Nat.pow_succ] at a2
      omega
    rw [this, Nat.one_mul]
  have hl := lo_of most x hx rest k
  rw [hv] at hl
  rw [hd, hl]
  show (k + 1 + k, some x) = _
  congr 1
  omega
theorem zer_is (most : Nat) : ∀ f k ds c j, 2 ^ k ≤ most → zerR most f k ds = (c, some j) → ∃ i, j = k + i ∧ c = i + 1 ∧ ds.take c = List.replicate i false ++ [true] ∧ 2 ^ j ≤ most
  | 0, k, ds, c, j, hm, h => by simp [zerR, badR] at h
  | f + 1, k, ds, c, j, hm, h => by
    obtain ⟨c1, d, c2, e1, e2, rfl⟩ := bndR_is h
    obtain ⟨l, rfl, rfl⟩ := dgR_is e1
    cases d with
    | true =>
      rw [if_pos rfl] at e2
      simp [retR] at e2
      obtain ⟨rfl, rfl⟩ := e2
      exact ⟨0, by omega, rfl, rfl, hm⟩
    | false =>
      rw [if_neg (by simp)] at e2
      split at e2
      · simp [badR] at e2
      · rename_i hb
        obtain ⟨i, h1, h2, h3, h4⟩ := zer_is most f (k + 1) _ _ _ (by omega) e2
        refine ⟨i + 1, by omega, by omega, ?_, h4⟩
        have e : (List.drop 1 (false :: l)) = l := rfl
        rw [e] at h3
        rw [Nat.add_comm 1 c2, List.take_succ_cons, h3]
        simp [List.replicate_succ]
theorem lo_is (most : Nat) : ∀ k x ds c y, 2 ^ k ∣ x → x ≤ most → loR most k x ds = (c, some y) → c = k ∧ ds.take k = gamL k y ∧ y ≤ most ∧ x ≤ y ∧ y < x + 2 ^ k
  | 0, x, ds, c, y, hd, hm, h => by
    simp [loR, retR] at h
    obtain ⟨rfl, rfl⟩ := h
    exact ⟨rfl, by simp [gamL], hm, Nat.le_refl _, by omega⟩
  | k + 1, x, ds, c, y, hd, hm, h => by
    obtain ⟨c1, d, c2, e1, e2, rfl⟩ := bndR_is h
    obtain ⟨l, rfl, rfl⟩ := dgR_is e1
    have hp : 2 ^ (k + 1) = 2 * 2 ^ k := by rw [Nat.pow_succ, Nat.mul_comm]
    split at e2
    · simp [badR] at e2
    · rename_i hb
      have hd2 : 2 ^ k ∣ x + d.toNat * 2 ^ k := Nat.dvd_add (Nat.dvd_trans ⟨2, by rw [hp, Nat.mul_comm]⟩ hd) ⟨d.toNat, Nat.mul_comm _ _⟩
      obtain ⟨h1, h2, h3, h4, h5⟩ := lo_is most k _ _ _ _ hd2 (by omega) e2
      have hle : d.toNat ≤ 1 := by cases d <;> simp
      have hm2 : d.toNat * 2 ^ k ≤ 2 ^ k := by
        calc d.toNat * 2 ^ k ≤ 1 * 2 ^ k := Nat.mul_le_mul_right _ hle
          _ = 2 ^ k := Nat.one_mul _
      refine ⟨by omega, ?_, h3, by omega, by omega⟩
      have ht : y.testBit k = d := by
        obtain ⟨q, rfl⟩ := hd
        have hy : y / 2 ^ k = 2 * q + d.toNat := by
          refine Nat.div_eq_of_lt_le ?_ ?_
          · have : (2 * q + d.toNat) * 2 ^ k = 2 ^ (k + 1) * q + d.toNat * 2 ^ k := by rw [Nat.add_mul, hp, Nat.mul_assoc, Nat.mul_assoc, Nat.mul_comm q]
            omega
          · have : (2 * q + d.toNat + 1) * 2 ^ k = 2 ^ (k + 1) * q + d.toNat * 2 ^ k + 2 ^ k := by rw [Nat.add_mul, Nat.add_mul, hp, Nat.mul_assoc, Nat.mul_assoc, Nat.mul_comm q, Nat.one_mul]
            omega
        rw [Nat.testBit_eq_decide_div_mod_eq, hy]
        cases d <;> simp <;> omega
      have e : List.drop 1 (d :: l) = l := rfl
      rw [e] at h2
      rw [List.take_succ_cons, h2, gamL, ht]
theorem st_is {most : Nat} (hm : 1 ≤ most) {ds : List Bool} {c x : Nat} (h : stR most ds = (c, some x)) : ds.take c = gam x ∧ c = (gam x).length ∧ 1 ≤ x ∧ x ≤ most := by
  obtain ⟨c1, k, c2, e1, e2, rfl⟩ := bndR_is h
  obtain ⟨i, h1, h2, h3, h4⟩ := zer_is most 20 0 ds c1 k hm e1
  rw [Nat.zero_add] at h1
  subst h1 h2
  obtain ⟨g1, g2, g3, g4, g5⟩ := lo_is most k _ _ _ _ ⟨1, by rw [Nat.mul_one]⟩ h4 e2
  subst g1
  have hk : x.log2 = c2 := by
    have hp : 2 ^ (c2 + 1) = 2 ^ c2 + 2 ^ c2 := by rw [Nat.pow_succ, Nat.mul_two]
    have hx0 : x ≠ 0 := by have := Nat.two_pow_pos c2; omega
    have a1 := Nat.log2_self_le hx0
    have a2 := Nat.lt_log2_self (n := x)
    have b1 : c2 < x.log2 + 1 := (Nat.pow_lt_pow_iff_right (by decide : 1 < 2)).1 (by omega)
    have b2 : x.log2 < c2 + 1 := (Nat.pow_lt_pow_iff_right (by decide : 1 < 2)).1 (by omega)
    omega
  have hx1 : 1 ≤ x := by have := Nat.two_pow_pos c2; omega
  refine ⟨?_, by rw [gam_len, hk]; omega, hx1, g3⟩
  have : ds.take (c2 + 1 + c2) = ds.take (c2 + 1) ++ (ds.drop (c2 + 1)).take c2 := by rw [List.take_add]
  rw [this, h3, g2, gam, hk]
  simp
end Go.Proofs.YtedhohamdbplhaaDoor.B
