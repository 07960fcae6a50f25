import Derived.Test.YtkjaaknlhmneoaaMtHw2
namespace Go.Proofs.Ytkjaaknlhmneoaa
open Go.RowKit
open Num
set_option linter.unusedVariables false
set_option linter.unusedSimpArgs false
set_option maxRecDepth 20000

theorem nilWordsEq (a : Option Addr) (n c : Nat) (W : World) : (binOp .eql 35 (.slice a n c) (.slice none 0 0)).run Try.prog W = .ok (.bool a.isNone) W := by
  have := Lib.run_eql_slice_nil (P := Try.prog) W 35 43 a n c 0 0 Try.underlying35
  exact this
theorem USl.part {w : World} {g : Nat} {l m : List Nat} (h : WRow w g (l ++ m)) (hb : ∀ x ∈ l, x < 18446744073709551616) (hl : l.length + m.length ≤ 17592186044422) : USl w (.slice (some ⟨g, 0, none⟩) l.length (l.length + m.length)) l := by
  refine ⟨some ⟨g, 0, none⟩, l.length + m.length, rfl, by omega, by unfold maxLen; omega, hb, fun _ => ⟨g, 0, rfl, heap_lt h, fun i hi => ?_⟩⟩
  rw [Nat.zero_add, (h.cell (i := i) (by simp; omega)).1]
  simp [List.getD, List.getElem?_append_left hi]
theorem argWords_any {w : World} {g : Nat} {v : Value} {l : List Nat} (hv : USl w v l) (hp : WRow w g (l ++ wmarks)) (hl : l.length ≤ 17592186044416) :
    Calls Try.prog 21 #[.slice (some ⟨g, 0, none⟩) (l.length + 6) (l.length + 6), v] w fun e w' => ∃ u, e = .returned u ∧ w' = w ∧ USl w u l := by
  have HU := hide fun hb => USl.part hp hb (by simp [wmarks]; omega)
  change Hid ((∀ x ∈ l, x < 18446744073709551616) → USl w (.slice (some ⟨g, 0, none⟩) l.length (l.length + 6)) l) at HU
  obtain ⟨a, cap, rfl, h1, h2, h3, h4⟩ := hv
  unfold maxLen at h2
  have q := nilWordsEq
  have HU2 := hide (HU.out h3)
  cases a with
  | none =>
    have hl0 : l.length = 0 := Classical.byContradiction fun hn => by
      obtain ⟨b, off, e, _⟩ := h4 (by omega)
      cases e
    have el : l = [] := List.eq_nil_of_length_eq_zero hl0
    clear hp h4 h3 HU
    go_enter Try.func21, Try.ntmps21
    go_wp2_with fail
    go_ret
    refine ⟨.slice none 0 0, rfl, rfl, ?_⟩
    try rw [el]
    exact ⟨none, 0, rfl, Nat.le_refl _, by unfold maxLen; omega, by simp, by simp⟩
  | some ad =>
    have hn6 : ¬ l.length + 6 = 0 := by omega
    clear hp h4 h3 HU
    generalize l.length = K at *
    go_enter Try.func21, Try.ntmps21
    go_wp2_with fail
    go_ret
    exact ⟨_, rfl, rfl, HU2.out⟩
set_option maxHeartbeats 1000000 in
/-- sameWords of the same words -/
theorem sameW_any (w : World) (u v : Value) (l : List Nat) (hu : USl w u l) (hv : USl w v l) : Calls Try.prog 18 #[u, v] w fun e w' => e = .returned (.bool true) ∧ ∃ q, w' = w.drewN q := by
  obtain ⟨a, cap, rfl, h1, h2, h3, h4⟩ := hu
  obtain ⟨a', cap', rfl, h1', h2', h3', h4'⟩ := hv
  unfold maxLen at h2 h2'
  have HC : Hid (∀ q i, i < l.length → ∃ b off b' off', a = some ⟨b, off, none⟩ ∧ a' = some ⟨b', off', none⟩ ∧ (w.drewN q).cell? ⟨b, off + i, none⟩ = some (.int .u64 (l.getD i 0 : Nat)) ∧ (w.drewN q).cell? ⟨b', off' + i, none⟩ = some (.int .u64 (l.getD i 0 : Nat))) := hide fun q i hi => by
    obtain ⟨b, off, e, _, hc⟩ := h4 (by omega)
    obtain ⟨b', off', e', _, hc'⟩ := h4' (by omega)
    exact ⟨b, off, b', off', e, e', hc i hi, hc' i hi⟩
  clear h3 h4 h3' h4'
  generalize l.length = L at *
  have hne : ((L : Int) != (L : Int)) = false := by simp
  go_enter Try.func18, Try.ntmps18
  go_wp2_with fail
  go_loopw [5] (fun x wr => ∃ i q : Nat, i ≤ L ∧ x = .int .i64 (i : Int) ∧ wr = w.drewN q) (fun x _ => L - (intOf x).toNat)
  case atStart => exact ⟨0, 0, Nat.zero_le _, rfl, rfl⟩
  case round =>
    obtain ⟨i, q, hi, rfl, hwr⟩ := hrel
    have HWR := hide hwr
    by_cases hlt : i < L
    · obtain ⟨b, off, b', off', rfl, rfl, c1, c2⟩ := HC.out q i hlt
      rw [← hwr] at c1 c2
      clear hwr
      generalize l.getD i 0 = x at *
      have hxx : ((x : Int) != (x : Int)) = false := by simp
      go_wp2_with fail
      go_quiet (fail)
      go_wp2_with fail
      go_roundw
      case rel => exact ⟨i + 1, q + nq, by omega, by go_num, by rw [HWR.out]; exact World.drewN_drewN ..⟩
      case measure => simp [intOf]; omega
    · clear hwr
      go_wp2_with fail
      go_ret
      exact ⟨rfl, q, HWR.out⟩
end Go.Proofs.Ytkjaaknlhmneoaa
