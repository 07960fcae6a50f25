import Derived.Test.YtijfnacplikibaaKAS2
namespace Go.Proofs.Ytijfnacplikibaa
open Go.RowKit
set_option linter.unusedVariables false
set_option linter.unusedSimpArgs false
set_option maxRecDepth 20000

theorem nodup_at {l : List Int} (h : l.Nodup) {j : Nat} (hj : j < l.length) : (l.take j).contains (l.getD j 0) = false := by
  have e : l.getD j 0 = l[j] := by simp [List.getD, hj]
  rw [e, ← Bool.not_eq_true, List.contains_iff_mem]
  intro hm
  have hs : l = l.take j ++ l[j] :: l.drop (j + 1) := by rw [List.getElem_cons_drop, List.take_append_drop]
  rw [hs, List.nodup_append] at h
  exact h.2.2 _ hm _ List.mem_cons_self rfl
theorem getD_mem {l : List Int} {j : Nat} (hj : j < l.length) : l.getD j 0 ∈ l := by
  rw [show l.getD j 0 = l[j] by simp [List.getD, hj]]; exact List.getElem_mem hj
theorem snd_facts {hs rw : List (Int × Int)} (h : Ok1 hs rw) :
    ((modeOf hs = 0 ∧ (hs.map Prod.fst).length = 0 ∧ (rw.map Prod.fst).length = 0) ∨ (modeOf hs = 1 ∧ (hs.map Prod.fst).length ≠ 0) ∨ (modeOf hs = 2 ∧ (hs.map Prod.fst).length = 1)) ∧
    (∀ j, j < (hs.map Prod.fst).length → (rw.map Prod.fst).contains ((hs.map Prod.fst).getD j 0) = false ∧ ((hs.map Prod.fst).take j).contains ((hs.map Prod.fst).getD j 0) = false ∧ has hs ((hs.map Prod.fst).getD j 0) = true) ∧
    ∀ j, j < (rw.map Prod.fst).length → ((rw.map Prod.fst).take j).contains ((rw.map Prod.fst).getD j 0) = false ∧ has hs ((rw.map Prod.fst).getD j 0) = false := by
  have hnd := h.nd
  rw [List.map_append, List.nodup_append] at hnd
  obtain ⟨n1, n2, n3⟩ := hnd
  refine ⟨?_, fun j hj => ⟨?_, nodup_at n1 hj, ?_⟩, fun j hj => ⟨nodup_at n2 hj, ?_⟩⟩
  · cases hs with
    | nil =>
      left
      refine ⟨rfl, rfl, ?_⟩
      by_cases hr : rw = []
      · rw [hr]; rfl
      · exact absurd rfl (h.ne hr)
    | cons c l =>
      right
      rcases h.md c (by simp) with e | e
      · exact .inl ⟨e, by simp⟩
      · right
        refine ⟨e, ?_⟩
        rcases h.ex with hx | hx
        · have := hx c (by simp); omega
        · rw [List.length_map]; exact hx
  · have e : (hs.map Prod.fst).getD j 0 ∈ hs.map Prod.fst := getD_mem hj
    rw [← Bool.not_eq_true, List.contains_iff_mem]
    exact fun hm => n3 _ e _ hm rfl
  · exact has_mem.2 (getD_mem hj)
  · have e : (rw.map Prod.fst).getD j 0 ∈ rw.map Prod.fst := getD_mem hj
    rw [has_not]
    exact fun hm => n3 _ hm _ e rfl
set_option maxHeartbeats 1000000 in
theorem has_seen (w : World) (a1 : Option Addr) (c1 : Nat) (l : List Int) (o : Int) (b1 : l.length ≤ c1) (b2 : c1 ≤ maxLen) (hc : ∀ j, j < l.length → ∃ g, a1 = some ⟨g, 0, none⟩ ∧ w.cell? ⟨g, j, none⟩ = some (.int .i64 (l.getD j 0))) : Calls Try.prog 20 #[.slice a1 l.length c1, .int .i64 o] w fun e w' => e = .returned (.bool (l.contains o)) ∧ w' = w := by
  unfold maxLen at b2
  have HC := hide hc
  have HY : Hid (∀ j, j < l.length → l.getD j 0 = o → l.contains o = true) := hide fun j hj e => by
    rw [List.contains_iff_mem]
    rw [← e]
    simp [List.getD, hj]
  have HNO : Hid ((∀ j, j < l.length → l.getD j 0 ≠ o) → l.contains o = false) := hide fun h => by
    rw [← Bool.not_eq_true, List.contains_iff_mem]
    intro hm
    obtain ⟨j, hj, e⟩ := List.mem_iff_getElem.1 hm
    exact h j hj (by simp [List.getD, hj, e])
  clear hc
  generalize l.length = n at *
  generalize l.contains o = R at *
  go_enter Try.func20, Try.ntmps20
  go_wp2_with fail
  go_loopw [5] (fun x wr => ∃ j : Nat, j ≤ n ∧ x = .int .i64 (j : Int) ∧ wr = w ∧ ∀ i, i < j → l.getD i 0 ≠ o) (fun x _ => n - (intOf x).toNat)
  case atStart => exact ⟨0, Nat.zero_le _, rfl, rfl, fun i hi => by omega⟩
  case round =>
    obtain ⟨j, hj, rfl, rfl, hz⟩ := hrel
    have HZ := hide hz
    clear hz
    by_cases hlt : j < n
    · obtain ⟨g, rfl, d1⟩ := HC.out j hlt
      by_cases hxy : l.getD j 0 = o
      · have hR := HY.out j hlt hxy
        subst hR
        rw [hxy] at d1
        clear HC HY HNO HZ hxy
        go_wp2_with fail
        go_ret
        exact ⟨rfl, rfl⟩
      · have HN : Hid (∀ i, i < j + 1 → l.getD i 0 ≠ o) := hide fun i hi => by
          by_cases e : i = j
          · rw [e]; exact hxy
          · exact HZ.out i (by omega)
        have hne : (l.getD j 0 == o) = false := by simpa using hxy
        clear hxy HZ HC HY HNO
        generalize l.getD j 0 = x at *
        go_wp2_with fail
        go_roundw
        case rel => exact ⟨j + 1, by omega, by go_num, trivial, HN.out⟩
        case measure => simp [intOf]; omega
    · have ej : j = n := by omega
      subst ej
      have hR := HNO.out HZ.out
      subst hR
      clear HC HY HNO HZ
      go_wp2_with fail
      go_ret
      exact ⟨rfl, rfl⟩
/-- a list's cells, seen -/
theorem IRow.seen {w : World} {a1 : Option Addr} {k c1 : Nat} {l : List Int} (hu : IRow w (.slice a1 k c1) l) : ∀ j, j < l.length → ∃ g, a1 = some ⟨g, 0, none⟩ ∧ w.cell? ⟨g, j, none⟩ = some (.int .i64 (l.getD j 0)) := fun j hj => by
  obtain ⟨g, cp, e, hg, hc⟩ := hu.cell (j := j) (z := l.getD j 0) (by simp [List.getD, hj])
  simp only [Value.slice.injEq] at e
  exact ⟨g, e.1, hc⟩
/-- has, of a list's front -/
theorem IRow.front {w : World} {a1 : Option Addr} {k c1 : Nat} {l : List Int} (hu : IRow w (.slice a1 k c1) l) {j : Nat} (hj : j ≤ l.length) (o : Int) : Calls Try.prog 20 #[.slice a1 j c1, .int .i64 o] w fun e w' => e = .returned (.bool ((l.take j).contains o)) ∧ w' = w := by
  obtain ⟨a2, c2, e, b1, b2⟩ := rowForm hu
  simp only [Value.slice.injEq] at e
  obtain ⟨rfl, rfl, rfl⟩ := e
  have hl : (l.take j).length = j := by rw [List.length_take]; omega
  have := has_seen w a1 c1 (l.take j) o (by omega) b2 fun i hi => by
    obtain ⟨g, e1, e2⟩ := hu.seen i (by omega)
    refine ⟨g, e1, ?_⟩
    rw [e2]
    have : i < l.length := by omega
    simp [List.getD, List.getElem?_take, this, show i < j by omega]
  rw [hl] at this
  exact this
end Go.Proofs.Ytijfnacplikibaa
