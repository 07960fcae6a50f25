import Derived.Test.YtepgiomgkgfioaaMtSize
namespace Go.Proofs.Ytepgiomgkgfioaa
open Go.RowKit
set_option linter.unusedVariables false
set_option maxRecDepth 20000

theorem blockOfBit_any (w : World) (i n : Int) (hn : okSz n = true) (hi : 0 ≤ i) (hh : i ≤ 65536) : Calls Try.prog 41 #[.int .i64 i, .int .i64 n] w fun e w' => e = .returned (.int .i64 (i / (8 * n))) ∧ w' = w := by
  obtain ⟨a, b⟩ := okSz_pos hn
  have hd : 0 ≤ i / (8 * n) := Int.ediv_nonneg hi (by omega)
  have hd2 : i / (8 * n) ≤ i := Int.ediv_le_self _ hi
  have hz : ¬ 8 * n = 0 := by omega
  have ht : i.tdiv (8 * n) = i / (8 * n) := Int.tdiv_eq_ediv_of_nonneg hi
  go_enter Try.func41, Try.ntmps41
  go_wp2_with fail
  go_ret
  exact ⟨by simp, rfl⟩
def areaN (i n : Int) : Int := if okSz n = true ∧ 0 ≤ i ∧ i < 65536 then i / (8 * n) else 0
def areaE (i n : Int) : Int := if okSz n = false then 1 else if 0 ≤ i ∧ i < 65536 then 0 else 2
theorem area_any (w : World) (i n : Int) : Calls Try.prog 17 #[.int .i64 i, .int .i64 n] w fun e w' => e = .returned (.tuple #[.int .i64 (areaN i n), .int .i64 (areaE i n)]) ∧ w' = w := by
  have HV := hide (validSize_any w n)
  cases hn : okSz n with
  | false =>
    rw [hn] at HV
    rw [show areaN i n = 0 by simp [areaN, hn], show areaE i n = 1 by simp [areaE, hn]]
    go_enter Try.func17, Try.ntmps17
    go_wp2_with (first
      | (go_at_call 23; refine HV.out.mono ?_; rintro e w2 ⟨rfl, rfl⟩))
    go_ret2
    exact ⟨rfl, rfl⟩
  | true =>
    rw [hn] at HV
    by_cases h1 : 0 ≤ i
    · by_cases h2 : i < 65536
      · obtain ⟨a, b⟩ := okSz_pos hn
        have hd : 0 ≤ i / (8 * n) := Int.ediv_nonneg h1 (by omega)
        have hd2 : i / (8 * n) ≤ i := Int.ediv_le_self _ h1
        have hz : ¬ 8 * n = 0 := by omega
        have ht : i.tdiv (8 * n) = i / (8 * n) := Int.tdiv_eq_ediv_of_nonneg h1
        have HB := hide (blockOfBit_any w i n hn h1 (by omega))
        rw [show areaN i n = i / (8 * n) by simp [areaN, hn, h1, h2], show areaE i n = 0 by simp [areaE, hn, h1, h2]]
        go_enter Try.func17, Try.ntmps17
        go_wp2_with (first
          | (go_at_call 23; refine HV.out.mono ?_; rintro e w2 ⟨rfl, rfl⟩)
          | (go_at_call 41; refine HB.out.mono ?_; rintro e w2 ⟨rfl, rfl⟩))
        go_ret2
        exact ⟨rfl, rfl⟩
      · rw [show areaN i n = 0 by simp [areaN, h2], show areaE i n = 2 by simp [areaE, hn, h2]]
        go_enter Try.func17, Try.ntmps17
        go_wp2_with (first
          | (go_at_call 23; refine HV.out.mono ?_; rintro e w2 ⟨rfl, rfl⟩))
        go_ret2
        exact ⟨rfl, rfl⟩
    · rw [show areaN i n = 0 by simp [areaN, h1], show areaE i n = 2 by simp [areaE, hn, h1]]
      go_enter Try.func17, Try.ntmps17
      go_wp2_with (first
        | (go_at_call 23; refine HV.out.mono ?_; rintro e w2 ⟨rfl, rfl⟩))
      go_ret2
      exact ⟨rfl, rfl⟩
end Go.Proofs.Ytepgiomgkgfioaa
