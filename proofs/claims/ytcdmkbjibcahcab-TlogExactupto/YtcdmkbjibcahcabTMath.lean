import Derived.Test.YtcdmkbjibcahcabTLv
namespace Go.Proofs.Ytcdmkbjibcahcab
open Go.RowKit
set_option linter.unusedVariables false
set_option linter.unusedSimpArgs false

/-- the epochs of a log's writes: each is the one ahead, or the next; n is open -/
def Stp (n : Int) : List Int → Prop
  | [] => True
  | x :: r => (r.headD n = x ∨ r.headD n = x + 1) ∧ Stp n r
theorem Stp.le {n : Int} : ∀ {l : List Int}, Stp n l → ∀ x ∈ l, l.headD n ≤ x ∧ x ≤ n
  | [], _, x, hx => by simp at hx
  | a :: [], h, x, hx => by
    simp at hx
    subst hx
    have := h.1
    simp at this ⊢
    omega
  | a :: b :: r, h, x, hx => by
    have ih := Stp.le h.2
    have h1 := h.1
    have hb := ih b (by simp)
    simp only [List.headD_cons] at h1 ih ⊢
    rcases List.mem_cons.1 hx with rfl | hx
    · omega
    · have := ih x hx
      omega
theorem Stp.headLe {n : Int} {l : List Int} (h : Stp n l) : l.headD n ≤ n := by
  cases l with
  | nil => exact Int.le_refl _
  | cons a r => exact (h.le a (by simp)).2
theorem Stp.app {n : Int} : ∀ {l : List Int}, Stp n l → Stp n (l ++ [n])
  | [], _ => ⟨.inl rfl, trivial⟩
  | a :: r, h => by
    refine ⟨?_, h.2.app⟩
    have h1 := h.1
    cases r with
    | nil => simpa using h1
    | cons b r => simpa using h1
theorem Stp.drop {n : Int} : ∀ {l : List Int}, Stp n l → ∀ k, Stp n (l.drop k)
  | [], _, k => by simp [Stp]
  | a :: r, h, 0 => h
  | a :: r, h, k + 1 => h.2.drop k
theorem Stp.close {n : Int} : ∀ {l : List Int}, Stp n l → 0 < l.count n → Stp (n + 1) l
  | [], _, h => by simp at h
  | a :: [], h, hc => by
    by_cases e : a = n
    · subst e
      exact ⟨.inr rfl, trivial⟩
    · rw [List.count_cons_of_ne (by simpa using e)] at hc
      simp at hc
  | a :: b :: r, h, hc => by
    refine ⟨h.1, Stp.close h.2 ?_⟩
    by_cases e : a = n
    · have := (h.le b (by simp))
      simp only [List.headD_cons] at this
      have : b = n := by omega
      rw [this, List.count_cons_self]
      omega
    · rw [List.count_cons_of_ne (by simpa using e)] at hc
      exact hc
theorem Stp.front {n : Int} : ∀ {x : Int} {r : List Int}, Stp n (x :: r) → x ≠ n → ((x :: r).dropWhile (· == x)).headD n = x + 1
  | x, [], h, hn => by
    have h1 := h.1
    simp only [List.headD_nil] at h1
    simp
    omega
  | x, y :: r, h, hn => by
    have h1 := h.1
    simp only [List.headD_cons] at h1
    rw [List.dropWhile_cons_of_pos (by simp)]
    rcases h1 with rfl | e
    · exact Stp.front h.2 hn
    · rw [List.dropWhile_cons_of_neg (by simp; omega)]
      simpa using e
theorem takeWhile_app {α : Type} (p : α → Bool) (x : α) (h : p x = false) : ∀ l : List α, ((l ++ [x]).takeWhile p).length = (l.takeWhile p).length
  | [] => by simp [h]
  | a :: l => by
    cases ha : p a with
    | true => simp [List.takeWhile_cons, ha, takeWhile_app p x h l]
    | false => simp [List.takeWhile_cons, ha]
theorem takeWhile_all {α : Type} (p : α → Bool) (l : List α) (h : ∀ x ∈ l, p x = true) : l.takeWhile p = l := by
  induction l with
  | nil => rfl
  | cons a l ih => rw [List.takeWhile_cons, h a (by simp), if_pos rfl, ih fun x hx => h x (by simp [hx])]
theorem Stp.back {n : Int} : ∀ {l : List Int}, Stp n l → (l.reverse.takeWhile (· == n)).length = l.count n
  | [], _ => rfl
  | a :: r, h => by
    rw [List.reverse_cons]
    by_cases e : a = n
    · have hall : ∀ x ∈ a :: r, x = n := fun x hx => by
        have := h.le x hx
        simp only [List.headD_cons] at this
        omega
      rw [takeWhile_all _ _ (fun x hx => by
        rw [beq_iff_eq]
        exact hall x (by simpa [or_comm] using hx)), List.count_eq_length.2 fun x hx => (hall x hx).symm]
      simp
    · rw [takeWhile_app _ _ (by simpa using e), h.2.back, List.count_cons_of_ne (by simpa using e)]
theorem Stp.frontCount {n : Int} : ∀ {x : Int} {r : List Int}, Stp n (x :: r) → ((x :: r).takeWhile (· == x)).length = (x :: r).count x
  | x, [], h => by simp
  | x, y :: r, h => by
    have h1 := h.1
    simp only [List.headD_cons] at h1
    rw [List.takeWhile_cons_of_pos (by simp), List.length_cons, List.count_cons_self]
    rcases h1 with rfl | e
    · rw [Stp.frontCount h.2]
    · rw [List.takeWhile_cons_of_neg (by simp; omega), List.count_eq_zero.2 fun hx => by
        have := h.2.le x hx
        simp only [List.headD_cons] at this
        omega]
      rfl
theorem count_dropWhile {x n : Int} (hn : x ≠ n) : ∀ l : List Int, (l.dropWhile (· == x)).count n = l.count n
  | [] => rfl
  | a :: l => by
    by_cases e : a = x
    · rw [List.dropWhile_cons_of_pos (by simpa using e), count_dropWhile hn l, List.count_cons_of_ne (by rw [e]; simpa using hn)]
    · rw [List.dropWhile_cons_of_neg (by simpa using e)]
theorem drop_takeWhile {α : Type} (p : α → Bool) : ∀ l : List α, l.drop (l.takeWhile p).length = l.dropWhile p
  | [] => rfl
  | a :: l => by
    cases h : p a with
    | true => rw [List.takeWhile_cons_of_pos h, List.dropWhile_cons_of_pos h, List.length_cons, List.drop_succ_cons, drop_takeWhile p l]
    | false => rw [List.takeWhile_cons_of_neg (by simp [h]), List.dropWhile_cons_of_neg (by simp [h])]; rfl
/-- a log's epochs -/
def LS.eps (S : LS) : List Int := S.es.map fun x => x.2.2
/-- what holds of a log -/
structure LS.Ok (S : LS) : Prop where
  bd : S.Bd
  st : Stp (S.now : Int) S.eps
  lo : ∀ x ∈ S.eps, 1 ≤ x
  jn : S.eps.count (S.now : Int) ≤ S.ep
theorem oldE_eq (S : LS) : oldE S = S.eps.headD (S.now : Int) := by
  unfold oldE LS.eps
  cases S.es with
  | nil => rfl
  | cons a r => simp
theorem joinN_eq {S : LS} (h : S.Ok) : joinN S = S.eps.count (S.now : Int) := by
  rw [← h.st.back]
  unfold joinN LS.eps
  rw [← List.map_reverse, List.takeWhile_map, List.length_map]
  rfl
theorem frontN_eq (S : LS) : frontN S = (S.eps.takeWhile (· == S.eps.headD (S.now : Int))).length := by
  unfold frontN LS.eps
  cases hS : S.es with
  | nil => rfl
  | cons a r =>
    rw [List.takeWhile_map, List.length_map]
    simp
    rfl
end Go.Proofs.Ytcdmkbjibcahcab
