import Derived.Test.YtijfnacplikibabKPa
import Derived.Test.YtijfnacplikibabKInv
import Derived.Test.YtijfnacplikibabKDrop
namespace Go.Proofs.Ytijfnacplikibab
open Go.RowKit
set_option linter.unusedVariables false
set_option linter.unusedSimpArgs false

def kv (x : Pc) : Int × Int := (x.own, x.mode)
def hl1 (e : Int) (x : Pc) : Bool := x.ext == e && x.held
def wtP (e : Int) (P : List Pc) : List (Int × Int) := (P.filter (fst1 e)).map kv
/-- the holders of an extent, by their turns -/
def Hd (e : Int) (P : List Pc) (l : List (Int × Int)) : Prop := ∃ H : List Pc, H.Perm (P.filter (hl1 e)) ∧ H.Pairwise (fun a b => a.turn < b.turn) ∧ H.map kv = l
/-- the document's places say what the program's lists say -/
structure Sm (n : Nat) (L : LL) (P : List Pc) (T : Nat) : Prop where
  wt : ∀ e : Nat, e < n → wtP (e : Int) P = L (e * 2 + 1)
  hd : ∀ e : Nat, e < n → Hd (e : Int) P (L (e * 2))
  tn : ∀ x ∈ P, x.held = true → 1 ≤ x.turn ∧ x.turn ≤ (T : Int)
  rg : ∀ x ∈ P, 0 ≤ x.ext ∧ x.ext < (n : Int)
section
variable {n : Nat} {L : LL} {P : List Pc} {T : Nat}
theorem Sm.memH (h : Sm n L P T) {e : Nat} (he : e < n) (c : Int × Int) : c ∈ L (e * 2) ↔ ∃ x ∈ P, hl1 (e : Int) x = true ∧ kv x = c := by
  obtain ⟨H, hp, -, hm⟩ := h.hd e he
  rw [← hm, List.mem_map]
  constructor
  · rintro ⟨x, hx, rfl⟩
    have := hp.mem_iff.1 hx
    rw [List.mem_filter] at this
    exact ⟨x, this.1, this.2, rfl⟩
  · rintro ⟨x, hx, h1, rfl⟩
    exact ⟨x, hp.mem_iff.2 (List.mem_filter.2 ⟨hx, h1⟩), rfl⟩
theorem Sm.memW (h : Sm n L P T) {e : Nat} (he : e < n) (c : Int × Int) : c ∈ L (e * 2 + 1) ↔ ∃ x ∈ P, fst1 (e : Int) x = true ∧ kv x = c := by
  rw [← h.wt e he, wtP, List.mem_map]
  constructor
  · rintro ⟨x, hx, rfl⟩
    rw [List.mem_filter] at hx
    exact ⟨x, hx.1, hx.2, rfl⟩
  · rintro ⟨x, hx, h1, rfl⟩
    exact ⟨x, List.mem_filter.2 ⟨hx, h1⟩, rfl⟩
theorem ixB_pos (f : Pc → Bool) (l : List Pc) : 0 ≤ ixB f l ↔ ∃ x ∈ l, f x = true := by
  unfold ixB
  rw [← List.findIdx_lt_length]
  split <;> simp_all
theorem Sm.find (h : Sm n L P T) {e : Nat} (he : e < n) (o : Int) : 0 ≤ ixB (fnd (e : Int) o) P ↔ (has (L (e * 2)) o || has (L (e * 2 + 1)) o) = true := by
  rw [ixB_pos, Bool.or_eq_true, has_mem, has_mem, List.mem_map, List.mem_map]
  constructor
  · rintro ⟨x, hx, hf⟩
    unfold fnd at hf
    rw [Bool.and_eq_true, beq_iff_eq, beq_iff_eq] at hf
    cases hh : x.held with
    | true => exact .inl ⟨kv x, (h.memH he _).2 ⟨x, hx, by simp [hl1, hf.1, hh], rfl⟩, hf.2⟩
    | false => exact .inr ⟨kv x, (h.memW he _).2 ⟨x, hx, by simp [fst1, hf.1, hh], rfl⟩, hf.2⟩
  · rintro (⟨c, hc, rfl⟩ | ⟨c, hc, rfl⟩)
    · obtain ⟨x, hx, h1, rfl⟩ := (h.memH he _).1 hc
      simp only [hl1, Bool.and_eq_true, beq_iff_eq] at h1
      exact ⟨x, hx, by simp [fnd, h1.1, kv]⟩
    · obtain ⟨x, hx, h1, rfl⟩ := (h.memW he _).1 hc
      simp only [fst1, Bool.and_eq_true, beq_iff_eq] at h1
      exact ⟨x, hx, by simp [fnd, h1.1, kv]⟩
theorem Sm.first (h : Sm n L P T) {e : Nat} (he : e < n) : 0 ≤ ixB (fst1 (e : Int)) P ↔ L (e * 2 + 1) ≠ [] := by
  rw [ixB_pos, List.ne_nil_iff_exists_cons]
  constructor
  · rintro ⟨x, hx, hf⟩
    have := (h.memW he (kv x)).2 ⟨x, hx, hf, rfl⟩
    cases hl : L (e * 2 + 1) with
    | nil => rw [hl] at this; simp at this
    | cons a b => exact ⟨a, b, rfl⟩
  · rintro ⟨a, b, hl⟩
    obtain ⟨x, hx, hf, -⟩ := (h.memW he a).1 (by rw [hl]; simp)
    exact ⟨x, hx, hf⟩
/-- does a mode go with the holders, by the document? -/
def goesP (P : List Pc) (e m : Int) : Bool := P.all fun x => !bar1 e m x
theorem Sm.goes (h : Sm n L P T) {e : Nat} (he : e < n) (hmd : ∀ c ∈ L (e * 2), c.2 = 1 ∨ c.2 = 2) (hex : (∀ c ∈ L (e * 2), c.2 = 1) ∨ (L (e * 2)).length = 1) {m : Int} (hm : m = 1 ∨ m = 2) : goesP P (e : Int) m = goesB (L (e * 2)) m := by
  have key : goesP P (e : Int) m = true ↔ ∀ c ∈ L (e * 2), ¬ (c.2 = 2 ∨ m = 2) := by
    unfold goesP
    rw [List.all_eq_true]
    constructor
    · intro hx c hc hcm
      obtain ⟨x, h1, h2, rfl⟩ := (h.memH he c).1 hc
      have := hx x h1
      simp only [hl1, Bool.and_eq_true, beq_iff_eq] at h2
      simp only [bar1, h2.1, h2.2, beq_self_eq_true, Bool.true_and, Bool.not_eq_true', Bool.or_eq_false_iff, beq_eq_false_iff_ne] at this
      rcases hcm with hcm | hcm
      · exact this.1 hcm
      · exact this.2 hcm
    · intro hx x h1
      simp only [Bool.not_eq_true', bar1]
      cases h2 : hl1 (e : Int) x with
      | false =>
        unfold hl1 at h2
        simp [h2]
      | true =>
        have := hx (kv x) ((h.memH he _).2 ⟨x, h1, h2, rfl⟩)
        unfold hl1 at h2
        rw [h2, Bool.true_and, Bool.or_eq_false_iff, beq_eq_false_iff_ne, beq_eq_false_iff_ne]
        exact ⟨fun q => this (.inl q), fun q => this (.inr q)⟩
  rw [Bool.eq_iff_iff, key]
  unfold goesB
  cases hl : L (e * 2) with
  | nil => simp
  | cons a r =>
    rw [hl] at hmd hex
    have hmd := hmd a (by simp)
    simp only [List.isEmpty_cons, Bool.false_or, Bool.and_eq_true, beq_iff_eq]
    constructor
    · intro hx
      have := hx a (by simp)
      refine ⟨by rcases hm with e | e; exact e; exact (this (.inr e)).elim, ?_⟩
      show a.2 = 1
      rcases hmd with e | e
      · exact e
      · exact (this (.inl e)).elim
    · rintro ⟨rfl, h2⟩ c hc
      have h2 : a.2 = 1 := h2
      rcases hex with hx | hx
      · have := hx c hc
        omega
      · have : r = [] := by simpa using hx
        subst this
        rw [List.mem_singleton] at hc
        subst hc
        omega
end
end Go.Proofs.Ytijfnacplikibab
