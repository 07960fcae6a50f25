import Derived.Test.YtkjaaknlhmneoabDoorMtSpo0
namespace Go.Proofs.YtkjaaknlhmneoabDoor
open Go.RowKit Go.Lib
set_option linter.unusedVariables false
set_option linter.unusedSimpArgs false
set_option maxRecDepth 20000

theorem uns_chk {Z : List Nat} {m : Nat} (hz : Z.length = m + 32) (hs : okSz ((m + 32 : Nat) : Int) = true) : (uns Z).2 = chk Z m := by
  rw [uns, hz, if_pos hs, Nat.add_sub_cancel]
  split
  · rename_i h; rw [h]
  · rfl
theorem enc_parts {s : Sup} {m : Nat} (h : s.Ok) (hn : s.size.toNat = m + 32) : s.enc.take m = s.head ∧ s.enc.drop m = shaL s.head ∧ s.enc.take 8 = lets ∧ okSz ((m + 32 : Nat) : Int) = true ∧ s.enc.length = m + 32 := by
  have hh := Sup.head_len h
  rw [hn] at hh
  have hl := Sup.enc_len h
  rw [hn] at hl
  obtain ⟨q, b, z, k, g0, g1, g2, g3, f, mk, hs, hz, -⟩ := h.nat
  have hzm : z = m + 32 := by rw [hs] at hn; simpa using hn
  refine ⟨take_app (by omega), drop_app (by omega), ?_, by rw [← hzm]; exact hz, hl⟩
  rw [Sup.enc, Sup.head, Sup.fld_eq, List.append_assoc, List.append_assoc]
  exact take_app rfl
theorem spo_magic {s : Sup} {Z : List Nat} {m : Nat} (h8 : s.enc.take 8 = lets) (h : s.enc.take 8 ≠ Z.take 8) : chk Z m = 51 := by
  rw [chk, if_pos fun e => h (by rw [h8, e])]
theorem spo_same {s : Sup} {Z : List Nat} {m : Nat} (hOk : s.Ok) (hn : s.size.toNat = m + 32) (hz : Z.length = m + 32) (hm : 8 ≤ m) (h : s.enc.take m = Z.take m) : chk Z m = if s.enc = Z then 0 else 52 := by
  obtain ⟨e1, e2, e3, e4, e5⟩ := enc_parts hOk hn
  by_cases he : s.enc = Z
  · rw [if_pos he, ← he, ← uns_chk e5 e4, uns_enc hOk]
  · rw [if_neg he]
    have h8 : Z.take 8 = lets := by
      have : (Z.take m).take 8 = (s.enc.take m).take 8 := by rw [h]
      rw [List.take_take, List.take_take, Nat.min_eq_left hm, e3] at this
      exact this
    have hd : shaL (Z.take m) ≠ Z.drop m := by
      rw [← h, e1, ← e2]
      intro e
      apply he
      rw [← List.take_append_drop m s.enc, ← List.take_append_drop m Z, h, e]
    rw [chk, if_neg (by simpa using h8), if_pos hd]
theorem spo_rest {s : Sup} {Z : List Nat} {m : Nat} (h8 : s.enc.take 8 = lets) (h : s.enc.take 8 = Z.take 8) : (chk Z m = 52 ↔ shaL (Z.take m) ≠ Z.drop m) ∧ chk Z m ≠ 51 := by
  have hz : Z.take 8 = lets := by rw [← h, h8]
  rw [chk, if_neg (by simpa using hz)]
  by_cases hd : shaL (Z.take m) ≠ Z.drop m
  · rw [if_pos hd]
    exact ⟨⟨fun _ => hd, fun _ => rfl⟩, by decide⟩
  · rw [if_neg hd]
    refine ⟨⟨fun e => ?_, fun e => absurd e hd⟩, ?_⟩
    · split at e
      · simp at e
      · split at e
        · simp at e
        · split at e <;> simp at e
    · split
      · simp
      · split
        · simp
        · split <;> simp
theorem bsl_take {w : World} {g n cap : Nat} {l : List Nat} (h : BSl w (.slice (some ⟨g, 0, none⟩) n cap) l) (hn : l.length = n) (k : Nat) (hk : k ≤ n) : BSl w (.slice (some ⟨g, 0, none⟩) k cap) (l.take k) := by
  obtain ⟨a, c, e, h1, h2, h3, h4, h5⟩ := h
  rw [hn] at e h1 h5
  cases e
  have hl : (l.take k).length = k := by simp; omega
  refine ⟨_, cap, by rw [hl], by rw [hl]; omega, h2, by simp, fun x hx => h4 x (List.mem_of_mem_take hx), fun hp => ?_⟩
  rw [hl] at hp
  obtain ⟨b, off, e, hd⟩ := h5 (by omega)
  cases e
  refine ⟨g, 0, rfl, fun i hi => ?_⟩
  rw [hl] at hi
  rw [hd i (by omega)]
  simp [List.getD, hi]
def allE (Z A : List Nat) (m : Nat) : Nat → Bool
  | 0 => true
  | j + 1 => allE Z A m j && (Z.getD (m + j) 0 == A.getD j 0)
theorem allE_iff (Z A : List Nat) (m : Nat) : ∀ j, allE Z A m j = true ↔ ∀ t, t < j → Z.getD (m + t) 0 = A.getD t 0
  | 0 => by simp [allE]
  | j + 1 => by
    rw [allE, Bool.and_eq_true, allE_iff Z A m j, beq_iff_eq]
    constructor
    · rintro ⟨h1, h2⟩ t ht
      rcases (show t < j ∨ t = j by omega) with h | rfl
      · exact h1 t h
      · exact h2
    · intro h
      exact ⟨fun t ht => h t (by omega), h j (by omega)⟩
theorem allE_eq {Z A : List Nat} {m : Nat} (hA : A.length = 32) (hZ : (Z.drop m).length = 32) : allE Z A m 32 = decide (A = Z.drop m) := by
  rw [Bool.eq_iff_iff, allE_iff, decide_eq_true_eq]
  constructor
  · intro h
    refine ext_getD (by rw [hA, hZ]) fun t ht => ?_
    rw [hA] at ht
    rw [← h t ht]
    simp [List.getD]
  · intro h t ht
    rw [h]
    simp [List.getD]
end Go.Proofs.YtkjaaknlhmneoabDoor
