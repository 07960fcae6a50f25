import Derived.Test.YtepgiomgkgfioaaDoorMtRead
namespace Go.Proofs.YtepgiomgkgfioaaDoor
open Go.RowKit Go.Lib
set_option linter.unusedVariables false
set_option linter.unusedSimpArgs false
set_option maxRecDepth 20000

set_option maxHeartbeats 600000 in
theorem zeroes_yes (w : World) (rb b off cap : Nat) (l : List Nat) (h : Cur w rb b off cap l) (hz : ∀ x ∈ l, x = 0) : Calls Tryd.prog 45 #[.pointer (some ⟨rb, 0, none⟩)] w fun e w' => e = .returned (.tuple #[]) ∧ w' = w := by
  have c0 : w.cell? ⟨rb, 0, none⟩ = some (.slice (some ⟨b, off, none⟩) l.length cap) := cell_of_row _ _ _ _ _ _ h.row
  have hle := h.le
  unfold maxLen at hle
  have HD : Hid (∀ i, i < l.length → w.cell? ⟨b, off + i, none⟩ = some (.int .u8 0)) := hide fun i hi => by
    rw [h.dat i hi, show l.getD i 0 = 0 from hz (l.getD i 0) (by rw [show l.getD i 0 = l[i] by simp [List.getD, hi]]; exact List.getElem_mem _)]; rfl
  clear h
  generalize l.length = n at *
  go_enter Tryd.func45, Tryd.ntmps45
  go_wp2_with fail
  go_loopw [10] (fun i wr => ∃ j : Nat, j ≤ n ∧ i = .int .i64 (j : Int) ∧ wr = w) (fun i _ => n - (intOf i).toNat)
  case atStart => exact ⟨0, Nat.zero_le _, rfl, rfl⟩
  case round =>
    obtain ⟨j, hj, rfl, rfl⟩ := hrel
    by_cases hlt : j < n
    · have cj := HD.out j hlt
      go_wp2_with (go_at_call 43; refine (demand_yes _ _).mono ?_; rintro e w3 ⟨rfl, rfl⟩)
      go_roundw
      case rel => exact ⟨j + 1, by omega, by go_num, trivial⟩
      case measure => simp [intOf]; omega
    · have hjn : j = n := by omega
      subst hjn
      go_wp2
      go_end0
      exact ⟨rfl, rfl⟩
set_option maxHeartbeats 600000 in
theorem zeroes_no (w : World) (rb b off cap : Nat) (l : List Nat) (h : Cur w rb b off cap l) (hz : ¬ ∀ x ∈ l, x = 0) : Calls Tryd.prog 45 #[.pointer (some ⟨rb, 0, none⟩)] w fun e w' => e = .panicked (fault 53) ∧ w' = w := by
  have c0 : w.cell? ⟨rb, 0, none⟩ = some (.slice (some ⟨b, off, none⟩) l.length cap) := cell_of_row _ _ _ _ _ _ h.row
  have hle := h.le
  unfold maxLen at hle
  have HD := hide h.dat
  have HX : Hid (∃ i, i < l.length ∧ l.getD i 0 ≠ 0) := hide (by
    false_or_by_contra
    rename_i hn
    apply hz
    intro x hx
    obtain ⟨i, hi, rfl⟩ := List.getElem_of_mem hx
    false_or_by_contra
    exact hn ⟨i, hi, by simpa [List.getD, hi] using ‹_›⟩)
  have HY := hide h.bytes
  have HG : Hid (∀ i, i < l.length → l.getD i 0 < 256) := hide fun i hi => by
    rw [show l.getD i 0 = l[i] by simp [List.getD, hi]]; exact h.bytes _ (List.getElem_mem _)
  clear h hz HY
  generalize l.length = n at *
  unfold fault
  go_enter Tryd.func45, Tryd.ntmps45
  go_wp2_with fail
  go_loopw [10] (fun i wr => ∃ j : Nat, j ≤ n ∧ i = .int .i64 (j : Int) ∧ wr = w ∧ ∀ i, i < j → l.getD i 0 = 0) (fun i _ => n - (intOf i).toNat)
  case atStart => exact ⟨0, Nat.zero_le _, rfl, rfl, fun i hi => by omega⟩
  case round =>
    obtain ⟨j, hj, rfl, rfl, hbe⟩ := hrel
    have hlt : j < n := by
      obtain ⟨i, hi, hne⟩ := HX.out
      false_or_by_contra
      exact hne (hbe i (by omega))
    have cj := HD.out j hlt
    have hx := HG.out j hlt
    have HBE := hide hbe
    clear hbe
    obtain ⟨x, hxe⟩ : ∃ x, l.getD j 0 = x := ⟨_, rfl⟩
    have HXE := hide hxe
    rw [hxe] at cj hx
    clear hxe
    by_cases h0 : x = 0
    · subst h0
      go_wp2_with (go_at_call 43; refine (demand_yes _ _).mono ?_; rintro e w3 ⟨rfl, rfl⟩)
      go_roundw
      case rel => exact ⟨j + 1, by omega, by go_num, trivial, fun i hi => by
        rcases (show i < j ∨ i = j by omega) with h | rfl
        · exact HBE.out i h
        · exact HXE.out⟩
      case measure => simp [intOf]; omega
    · have hb1 : (((x : Int)) == 0) = false := by rw [beq_eq_false_iff_ne]; omega
      have hb3 : (x == 0) = false := by rw [beq_eq_false_iff_ne]; exact h0
      go_wp2_with (go_at_call 43; (try rw [hb1]); (try rw [hb3]); refine (demand_no _ _).mono ?_; unfold fault; rintro e w3 ⟨rfl, rfl⟩)
      exact ⟨rfl, rfl, rfl⟩
end Go.Proofs.YtepgiomgkgfioaaDoor
