import Derived.Test.YtdjdcpldofmdjaaCNmr
namespace Go.Proofs.Ytdjdcpldofmdjaa
open Go.RowKit
set_option linter.unusedVariables false
set_option linter.unusedSimpArgs false
set_option maxRecDepth 20000

/-- the document's parts: a lead, then what stands there -/
def rtx (j : Nat) : ByteArray := if j % 2 = 0 then leadsL.getD (j / 2) ⟨#[]⟩ else ⟨#[]⟩
def rkd (j : Nat) : Option Nm := if j % 2 = 0 then none else kindsL.getD (j / 2) none
def rnb (j : Nat) : Bool := if j % 2 = 0 then false else (kindsL.getD (j / 2) none).isNone
/-- a field's number is the word's place, or (the protocol) one more -/
def shf (k : Nat) : Int := if k = 5 then 1 else 0
/-- the document's part j at the front of a text -/
def rOne (j : Nat) (l : List UInt8) : Nat × Bool × Int :=
  if j % 2 = 0 then (cp l (tx (rtx j)), decide (cp l (tx (rtx j)) = (rtx j).size), 0)
  else match kindsL.getD (j / 2) none with
    | some ns => match chWho ns l with
      | some (n, x) => (n, true, x - shf (j / 2))
      | none => (chFar ns l 0, false, 0)
    | none => ((rdN l 0 0).1, decide (0 < (rdN l 0 0).1), ((rdN l 0 0).2 : Nat))
def addO (ns : List Int) (j : Nat) (x : Int) : List Int := if j % 2 = 0 then ns else ns ++ [x]
def dAll (l : List UInt8) : Nat → Nat → Nat → List Int → List Int × Nat × Bool
  | 0, _, at_, ns => (ns, at_, true)
  | m + 1, j, at_, ns => if (rOne j (l.drop at_)).2.1 then dAll l m (j + 1) (at_ + (rOne j (l.drop at_)).1) (addO ns j (rOne j (l.drop at_)).2.2) else (ns, at_ + (rOne j (l.drop at_)).1, false)
theorem dAll_go {l : List UInt8} {k at_ : Nat} {vs : List Int} (hk : k < 30) (h : (rOne k (l.drop at_)).2.1 = true) : dAll l (30 - k) k at_ vs = dAll l (30 - (k + 1)) (k + 1) (at_ + (rOne k (l.drop at_)).1) (addO vs k (rOne k (l.drop at_)).2.2) := by
  rw [show 30 - k = (30 - (k + 1)) + 1 by omega, dAll, if_pos h]
theorem dAll_no {l : List UInt8} {k at_ : Nat} {vs : List Int} (hk : k < 30) (h : (rOne k (l.drop at_)).2.1 = false) : dAll l (30 - k) k at_ vs = (vs, at_ + (rOne k (l.drop at_)).1, false) := by
  rw [show 30 - k = (30 - (k + 1)) + 1 by omega, dAll, if_neg (by simp [h])]
theorem rOne_le (j : Nat) (l : List UInt8) : (rOne j l).1 ≤ l.length := by
  unfold rOne
  split
  · exact cp_le_l _ _
  · split
    · rename_i ns _
      split
      · rename_i n x hw
        exact chWho_le _ _ hw
      · exact chFar_le ns l 0 (Nat.zero_le _)
    · have := rdN_le l 0 0
      show (rdN l 0 0).1 ≤ _
      omega
/-- the number that a status has of what was read -/
def shv (i : Nat) (x : Int) : Int := if i = 5 then IntKind.i64.wrap (x + 1) else x
def shl (ns : List Int) : List Int := ns.mapIdx shv
def dR (n : Nat) (R : List Int × Nat × Bool) : List Int × Nat × Nat := if R.2.2 = true ∧ ¬ R.2.1 < n then (shl R.1, 0, 0) else (zS, R.2.1, 126)
theorem chWho_mem : ∀ (ns : Nm) (t : List UInt8) {n : Nat} {x : Int}, chWho ns t = some (n, x) → ∃ s, (s, x) ∈ ns
  | [], t, n, x, h => by simp [chWho] at h
  | (s, y) :: l, t, n, x, h => by
    unfold chWho at h
    split at h
    · simp at h
      exact ⟨s, by simp [h.2]⟩
    · obtain ⟨s', hs⟩ := chWho_mem l t h
      exact ⟨s', by simp [hs]⟩
theorem shv_prot {t : List UInt8} {n : Nat} {x : Int} (h : chWho protsN t = some (n, x)) : shv 5 (x - shf 5) = x := by
  obtain ⟨s, hs⟩ := chWho_mem _ _ h
  have hx : x = 1 ∨ x = 2 ∨ x = 3 := by
    simp [protsN] at hs
    omega
  rcases hx with rfl | rfl | rfl <;> decide
theorem shv_of {k : Nat} (hk : k ≠ 5) (x : Int) : shv k (x - shf k) = x := by simp [shv, shf, hk]
theorem shl_add (ns : List Int) (x : Int) : shl (ns ++ [x]) = shl ns ++ [shv ns.length x] := by simp [shl, List.mapIdx_concat]
theorem shl_len (ns : List Int) : (shl ns).length = ns.length := by simp [shl]
theorem put_zero (a : List Int) (m : Nat) (x : Int) : (a ++ List.replicate (m + 1) 0).set a.length x = (a ++ [x]) ++ List.replicate m 0 := by
  rw [List.set_append_right _ _ (Nat.le_refl _)]
  simp [List.replicate_succ]
/-- two of the document's parts are one of the program's -/
theorem two_one {l : List UInt8} {k : Nat} (hk : k < 15) : 
    (pOne k l).1 = (if (rOne (2 * k) l).2.1 then (rOne (2 * k) l).1 + (rOne (2 * k + 1) (l.drop (rOne (2 * k) l).1)).1 else (rOne (2 * k) l).1) ∧
    (pOne k l).2.1 = ((rOne (2 * k) l).2.1 && (rOne (2 * k + 1) (l.drop (rOne (2 * k) l).1)).2.1) ∧
    ((pOne k l).2.1 = true → (pOne k l).2.2 = some (shv k (rOne (2 * k + 1) (l.drop (rOne (2 * k) l).1)).2.2)) := by
  have e0 : (2 * k) % 2 = 0 := by omega
  have e1 : ¬ (2 * k + 1) % 2 = 0 := by omega
  have e2 : 2 * k / 2 = k := by omega
  have e3 : (2 * k + 1) / 2 = k := by omega
  have a0 : rOne (2 * k) l = (cp l (tx (leadsL.getD k ⟨#[]⟩)), decide (cp l (tx (leadsL.getD k ⟨#[]⟩)) = (leadsL.getD k ⟨#[]⟩).size), 0) := by
    unfold rOne rtx
    rw [if_pos e0, if_pos e0, e2]
  have a1 : ∀ m, rOne (2 * k + 1) m = match kindsL.getD k none with
    | some ns => match chWho ns m with
      | some (n, x) => (n, true, x - shf k)
      | none => (chFar ns m 0, false, 0)
    | none => ((rdN m 0 0).1, decide (0 < (rdN m 0 0).1), ((rdN m 0 0).2 : Nat)) := fun m => by
    unfold rOne
    rw [if_neg e1, e3]
  rw [a0, a1]
  unfold pOne
  dsimp only
  have hle := cp_le_r l (tx (leadsL.getD k ⟨#[]⟩))
  rw [tx_len] at hle
  have h5n : kindsL.getD k none = none → k ≠ 5 := fun hd h => by subst h; cases hd
  have h5s : ∀ ns, kindsL.getD k none = some ns → k = 5 → ns = protsN := fun ns hd h => by subst h; cases hd; rfl
  generalize leadsL.getD k ⟨#[]⟩ = lead at *
  generalize kindsL.getD k none = kd at *
  clear a0 a1
  by_cases hc : cp l (tx lead) < lead.size
  · have hne : decide (cp l (tx lead) = lead.size) = false := by simp; omega
    rw [if_pos hc, hne]
    exact ⟨rfl, rfl, fun h => by cases h⟩
  · have he : cp l (tx lead) = lead.size := by omega
    rw [if_neg hc, he]
    have hd1 : decide (lead.size = lead.size) = true := by simp
    rw [hd1]
    cases kd with
    | none =>
      have h5 := h5n rfl
      refine ⟨rfl, rfl, fun _ => ?_⟩
      simp [shv, h5]
    | some ns =>
      cases hw : chWho ns (l.drop lead.size) with
      | none => simp only [hw]; exact ⟨rfl, rfl, fun h => by cases h⟩
      | some q =>
        obtain ⟨n, x⟩ := q
        simp only [hw]
        refine ⟨rfl, rfl, fun _ => ?_⟩
        by_cases h5 : k = 5
        · have := h5s ns rfl h5
          subst this
          subst h5
          rw [shv_prot hw]
        · rw [shv_of h5]
theorem all_same (l : List UInt8) : ∀ (m k at_ : Nat) (ns : List Int), m + k = 15 → ns.length = k →
    (pAll l m k at_ (shl ns ++ List.replicate m 0)).2 = (dAll l (2 * m) (2 * k) at_ ns).2 ∧ ((pAll l m k at_ (shl ns ++ List.replicate m 0)).2.2 = true → (pAll l m k at_ (shl ns ++ List.replicate m 0)).1 = shl (dAll l (2 * m) (2 * k) at_ ns).1)
  | 0, k, at_, ns, hm, hn => by simp [pAll, dAll]
  | m + 1, k, at_, ns, hm, hn => by
    obtain ⟨h1, h2, h3⟩ := two_one (l := l.drop at_) (k := k) (by omega)
    have e0 : (2 * k) % 2 = 0 := by omega
    have e1 : ¬ (2 * k + 1) % 2 = 0 := by omega
    rw [show 2 * (m + 1) = (2 * m + 1) + 1 by omega]
    unfold pAll
    rw [dAll]
    by_cases hb0 : (rOne (2 * k) (l.drop at_)).2.1 = true
    · rw [if_pos hb0] at h1 ⊢
      rw [dAll]
      rw [List.drop_drop] at h1 h2 h3
      rw [hb0, Bool.true_and] at h2
      by_cases hb1 : (rOne (2 * k + 1) (l.drop (at_ + (rOne (2 * k) (l.drop at_)).1))).2.1 = true
      · rw [if_pos hb1, if_pos (by rw [h2]; exact hb1), h1, h3 (by rw [h2]; exact hb1)]
        have ih := all_same l m (k + 1) (at_ + ((rOne (2 * k) (l.drop at_)).1 + (rOne (2 * k + 1) (l.drop (at_ + (rOne (2 * k) (l.drop at_)).1))).1)) (ns ++ [(rOne (2 * k + 1) (l.drop (at_ + (rOne (2 * k) (l.drop at_)).1))).2.2]) (by omega) (by simp [hn])
        rw [shl_add, hn] at ih
        have hput : putO (shl ns ++ List.replicate (m + 1) 0) k (some (shv k (rOne (2 * k + 1) (l.drop (at_ + (rOne (2 * k) (l.drop at_)).1))).2.2)) = (shl ns ++ [shv k (rOne (2 * k + 1) (l.drop (at_ + (rOne (2 * k) (l.drop at_)).1))).2.2]) ++ List.replicate m 0 := by
          unfold putO
          have := put_zero (shl ns) m (shv k (rOne (2 * k + 1) (l.drop (at_ + (rOne (2 * k) (l.drop at_)).1))).2.2)
          rw [shl_len, hn] at this
          exact this
        rw [hput]
        unfold addO
        rw [if_pos e0, if_neg e1, Nat.add_assoc at_]
        exact ih
      · rw [if_neg hb1, if_neg (by rw [h2]; exact hb1), h1]
        refine ⟨by rw [Nat.add_assoc], fun h => by cases h⟩
    · rw [if_neg hb0] at h1 ⊢
      have hb0' : (rOne (2 * k) (l.drop at_)).2.1 = false := by simpa using hb0
      rw [hb0', Bool.false_and] at h2
      rw [if_neg (by rw [h2]; simp), h1]
      exact ⟨rfl, fun h => by cases h⟩
theorem same_answer (l : List UInt8) (n : Nat) : psR n (pAll l 15 0 0 zS) = dR n (dAll l 30 0 0 []) := by
  have h := all_same l 15 0 0 [] rfl rfl
  have e : shl [] ++ List.replicate 15 0 = zS := rfl
  rw [e] at h
  obtain ⟨h1, h2⟩ := h
  change (pAll l 15 0 0 zS).2 = (dAll l 30 0 0 []).2 at h1
  unfold psR dR
  rw [← h1]
  split
  · rename_i hc
    rw [h2 hc.1]
  · rfl
end Go.Proofs.Ytdjdcpldofmdjaa
