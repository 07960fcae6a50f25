import Derived.Test.YtcdmkbjibcahcaaTR3
namespace Go.Proofs.Ytcdmkbjibcahcaa
open Go.RowKit
set_option linter.unusedVariables false
set_option linter.unusedSimpArgs false
set_option maxRecDepth 20000

/-- the writes as the law books them: their ids alone -/
def idl (S : LS) : List En := (ids S.ls).map fun i => (i, 0, 0)
theorem idl_len (S : LS) : (idl S).length = S.es.length := by simp [idl, ids, LS.es]
theorem idl_add (S : LS) (oa ob : Int) : idl (addS S oa ob) = idl S ++ [(oa, 0, 0)] := by simp [idl, ids, addS]
theorem idl_leave (S : LS) (k : Nat) : idl (leaveS S k) = (idl S).drop k := by simp [idl, ids, leaveS]
theorem idl_close (S : LS) : idl (closeS S) = idl S := by unfold idl; rw [closeS_ls]
theorem idl_fail (S : LS) : idl (failS S) = [] := by unfold idl; rw [failS_ls]; rfl
theorem fail_join {S : LS} : joinN (failS S) = 0 := by unfold joinN; rw [failS_es]; rfl
/-- is a write with this id in the list? -/
def hasB (l : List En) (o : Int) : Bool := l.any fun x => x.1 == o
theorem hasB_idl (S : LS) (o : Int) : hasB (idl S) o = decide (o ∈ ids S.ls) := by
  rw [Bool.eq_iff_iff]
  simp [hasB, idl]
set_option maxHeartbeats 1000000 in
theorem has_any (w : World) (v : Value) (l : List En) (o : Int) (h : ERow w v l) : Calls Try.prog 12 #[v, .int .i64 o] w fun e w' => e = .returned (.bool (hasB l o)) ∧ w' = w := by
  obtain ⟨a1, c1, rfl, b1, b2, hc⟩ := h.form
  unfold maxLen at b2
  have HC : Hid (∀ j, j < l.length → ∃ g off, a1 = some ⟨g, off, none⟩ ∧ w.cell? ⟨g, off + j * 3, none⟩ = some (.int .i64 (l.getD j e0).1)) := hide fun j hj => by
    obtain ⟨g, off, e, _, d, _⟩ := hc j hj
    exact ⟨g, off, e, d⟩
  have HY : Hid (∀ j, j < l.length → (l.getD j e0).1 = o → hasB l o = true) := hide fun j hj e => by
    unfold hasB
    rw [List.any_eq_true]
    exact ⟨l.getD j e0, by simp [List.getD, hj], by simpa using e⟩
  have HNO : Hid ((∀ j, j < l.length → (l.getD j e0).1 ≠ o) → hasB l o = false) := hide fun h => by
    unfold hasB
    rw [List.any_eq_false]
    intro x hx
    obtain ⟨j, hj, e⟩ := List.mem_iff_getElem.1 hx
    have := h j hj
    simp [List.getD, hj, e] at this
    simpa using this
  clear hc h
  generalize l.length = n at *
  generalize hasB l o = R at *
  go_enter Try.func12, Try.ntmps12
  go_wp2_with fail
  go_loopw [5] (fun x wr => ∃ j : Nat, j ≤ n ∧ x = .int .i64 (j : Int) ∧ wr = w ∧ ∀ i, i < j → (l.getD i e0).1 ≠ o) (fun x _ => n - (intOf x).toNat)
  case atStart => exact ⟨0, Nat.zero_le _, rfl, rfl, fun i hi => by omega⟩
  case round =>
    obtain ⟨j, hj, rfl, rfl, hz⟩ := hrel
    have HZ := hide hz
    clear hz
    by_cases hlt : j < n
    · obtain ⟨g, off, rfl, d1⟩ := HC.out j hlt
      by_cases hxy : (l.getD j e0).1 = o
      · have hR := HY.out j hlt hxy
        subst hR
        rw [hxy] at d1
        clear HC HY HNO HZ hxy
        go_wp2_with fail
        go_ret
        exact ⟨rfl, rfl⟩
      · have HN : Hid (∀ i, i < j + 1 → (l.getD i e0).1 ≠ o) := hide fun i hi => by
          by_cases e : i = j
          · rw [e]; exact hxy
          · exact HZ.out i (by omega)
        have hne : ((l.getD j e0).1 == o) = false := by simpa using hxy
        clear hxy HZ HC HY HNO
        generalize (l.getD j e0).1 = x at *
        go_wp2_with fail
        go_roundw
        case rel => exact ⟨j + 1, by omega, by go_num, trivial, HN.out⟩
        case measure => simp [intOf]; omega
    · have ej : j = n := by omega
      subst ej
      have hR := HNO.out HZ.out
      subst hR
      clear HC HY HNO HZ
      go_wp2_with fail
      go_ret
      exact ⟨rfl, rfl⟩
end Go.Proofs.Ytcdmkbjibcahcaa
