import Derived.Test.YtepgiomgkgfioaaDoorMtMath
namespace Go.Proofs.YtepgiomgkgfioaaDoor
open Go.RowKit Go.Lib
set_option linter.unusedVariables false
set_option linter.unusedSimpArgs false
set_option maxRecDepth 20000

theorem tail_decF {L : List Nat} (hb : ∀ x ∈ L, x < 256) (hl : 60 ≤ L.length) : (decF L).tail = L.take 60 := by
  have t : ∀ a b k c, c = a + b → (L.drop a).take (b + k) = (L.drop a).take b ++ (L.drop c).take k := by
    intro a b k c hc
    rw [List.take_add, List.drop_drop, hc]
  have h8 : ∀ a, a + 8 ≤ L.length → bW (bval ((L.drop a).take 8)) 8 8 = (L.drop a).take 8 := fun a ha => bW_bval (by simp; omega) fun x hx => hb x (List.mem_of_mem_drop (List.mem_of_mem_take hx))
  have h4 : ∀ a, a + 4 ≤ L.length → bW (bval ((L.drop a).take 4)) 4 4 = (L.drop a).take 4 := fun a ha => bW_bval (by simp; omega) fun x hx => hb x (List.mem_of_mem_drop (List.mem_of_mem_take hx))
  have e : L.take 60 = (L.drop 0).take (8 + (4 + (4 + (4 + (4 + (8 + (8 + (8 + (8 + 4))))))))) := rfl
  rw [e, t 0 8 _ 8 rfl, t 8 4 _ 12 rfl, t 12 4 _ 16 rfl, t 16 4 _ 20 rfl, t 20 4 _ 24 rfl, t 24 8 _ 32 rfl, t 32 8 _ 40 rfl, t 40 8 _ 48 rfl, t 48 8 _ 56 rfl]
  unfold Sup.tail decF
  dsimp only
  simp only [Int.toNat_natCast]
  have h0 := h8 0 (by omega)
  rw [List.drop_zero] at h0
  rw [h0, h4 8 (by omega), h4 12 (by omega), h4 16 (by omega), h4 20 (by omega), h8 24 (by omega), h8 32 (by omega), h8 40 (by omega), h8 48 (by omega), h4 56 (by omega), List.drop_zero]
theorem all_zero : ∀ (l : List Nat), (∀ x ∈ l, x = 0) → l = List.replicate l.length 0
  | [], _ => rfl
  | x :: l, h => by
    rw [List.length_cons, List.replicate_succ, ← all_zero l fun y hy => h y (by simp [hy]), h x (by simp)]
/-- what is read is what is sealed -/
theorem uns_only {l : List Nat} {s : Sup} (hb : ∀ x ∈ l, x < 256) (h : uns l = (s, 0)) : s.Ok ∧ l = s.enc := by
  unfold uns at h
  split at h
  case isFalse => simp at h
  rename_i hz
  split at h
  case isFalse hc => simp at h; exact absurd h.2 hc
  rename_i hc
  have hs : body l (l.length - 32) = s := by simpa using h
  have hp := okSz_pos hz
  generalize hm : l.length - 32 = m at *
  have hlm : l.length = m + 32 := by omega
  unfold chk at hc
  split at hc
  case isTrue => simp at hc
  rename_i c1
  split at hc
  case isTrue => simp at hc
  rename_i c2
  split at hc
  case isTrue => simp at hc
  rename_i c3
  split at hc
  case isTrue => simp at hc
  rename_i c4
  split at hc
  case isTrue => simp at hc
  rename_i c5
  have c1 : l.take 8 = lets := by simpa using c1
  have c2 : shaL (l.take m) = l.drop m := by simpa using c2
  have c3 : (body l m).ok = true := by simpa using c3
  have c4 : (body l m).size = ((m + 32 : Nat) : Int) := by simpa using c4
  have c5 : ∀ x ∈ (l.take m).drop 68, x = 0 := by simpa using c5
  have htl : (l.take m).length = m := by simp; omega
  have hbT : ∀ x ∈ (l.take m).drop 8, x < 256 := fun x hx => hb x (List.mem_of_mem_take (List.mem_of_mem_drop hx))
  rw [hs] at c3 c4
  have hwf : s.Wf := by rw [← hs]; exact decF_wf hbT (by simp; omega)
  refine ⟨⟨c3, hwf⟩, ?_⟩
  have hH : s.head = l.take m := by
    have h1 : s.tail = ((l.take m).drop 8).take 60 := by rw [← hs]; exact tail_decF hbT (by simp; omega)
    have h2 : (l.take m).drop 68 = List.replicate (s.size.toNat - 100) 0 := by
      rw [all_zero _ c5, c4]
      congr 1
      simp
      omega
    have h3 : (l.take m).take 8 = lets := by rw [List.take_take, Nat.min_eq_left (by omega)]; exact c1
    rw [Sup.head, Sup.fld_eq, h1, ← h2, ← h3, List.append_assoc, show (l.take m).drop 68 = ((l.take m).drop 8).drop 60 by rw [List.drop_drop], List.take_append_drop, List.take_append_drop]
  rw [Sup.enc, hH, c2, List.take_append_drop]
end Go.Proofs.YtepgiomgkgfioaaDoor
