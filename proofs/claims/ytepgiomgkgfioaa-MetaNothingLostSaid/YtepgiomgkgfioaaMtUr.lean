import Derived.Test.YtepgiomgkgfioaaMtUq
namespace Go.Proofs.Ytepgiomgkgfioaa
open Go.RowKit
open Num
set_option linter.unusedVariables false
set_option linter.unusedSimpArgs false
set_option maxRecDepth 20000

/-- a list of any slices: their lengths -/
def LB (w : World) (O off m : Nat) (N : Nat → Nat) : Prop := ∀ k, k < m → ∃ a c, w.cell? ⟨O, off + k, none⟩ = some (.slice a (N k) c) ∧ N k ≤ 9223372036854775807
theorem first_bad {m s : Nat} {N : Nat → Nat} (hx : ∃ k, k < m ∧ ¬ N k = 0 ∧ ¬ N k = s) : ∀ i, i ≤ m → (∀ k, k < i → N k = 0 ∨ N k = s) → i < m := fun i hi h => Classical.byContradiction fun hn => by
  obtain ⟨k, hk, h1, h2⟩ := hx
  rcases h k (by omega) with h | h
  · exact h1 h
  · exact h2 h
set_option maxHeartbeats 1000000 in
/-- Unpack with a block of a wrong size -/
theorem unpack_len (w : World) (n s O off cap : Nat) (N : Nat → Nat) (hs : okSz (s : Int) = true) (h1 : 1 ≤ n) (h2 : n ≤ 65536) (hN : LB w O off ((n - 1) / (8 * s) + 1) N) (hx : ∃ k, k < (n - 1) / (8 * s) + 1 ∧ ¬ N k = 0 ∧ ¬ N k = s) : Calls Try.prog 14 #[.int .i64 (n : Int), .slice (some ⟨O, off, none⟩) ((n - 1) / (8 * s) + 1) cap, .int .i64 (s : Int)] w fun e w' => e = .returned (.tuple #[.slice none 0 0, .bool false, .int .i64 3]) ∧ w' = w := by
  have hp := okSz_pos hs
  have HVB := hide fun x => validBits_any x (n : Int)
  rw [decide_eq_true (by omega), decide_eq_true (by omega)] at HVB
  have HVS := hide fun x => validSize_any x (s : Int)
  rw [hs] at HVS
  have HAB := hide fun x => areaBlocks_any x (n : Int) (s : Int) hs (by omega) (by omega)
  rw [areaB_nat h1] at HAB
  have hmb : (n - 1) / (8 * s) + 1 ≤ 65537 := by
    have := Nat.div_le_self (n - 1) (8 * s)
    omega
  generalize (n - 1) / (8 * s) + 1 = m at *
  have HX := hide (first_bad hx)
  have HN := hide hN
  clear hx hN hs
  go_enter Try.func14, Try.ntmps14
  go_wp2_with (first
    | (go_at_call 22; refine (HVB.out _).mono ?_; rintro e w1 ⟨rfl, hw1⟩; have hws := hw1.symm; clear hw1; subst hws)
    | (go_at_call 23; refine (HVS.out _).mono ?_; rintro e w1 ⟨rfl, hw1⟩; have hws := hw1.symm; clear hw1; subst hws)
    | (go_at_call 26; refine (HAB.out _).mono ?_; rintro e w1 ⟨rfl, hw1⟩; have hws := hw1.symm; clear hw1; subst hws))
  clear HVB HVS HAB
  go_loopw [9, 32] (fun x i wr => ∃ (j : Nat) (b : Bool), j ≤ m ∧ i = .int .i64 (j : Int) ∧ x = .bool b ∧ wr = w ∧ ∀ k, k < j → N k = 0 ∨ N k = s) (fun _ i _ => m - (intOf i).toNat)
  case atStart => exact ⟨0, false, Nat.zero_le _, rfl, rfl, rfl, fun k hk => by omega⟩
  case round =>
    obtain ⟨j, b, hj, rfl, rfl, hwr, hz⟩ := hrel
    have hwrs := hwr.symm
    clear hwr
    subst hwrs
    have hlt := HX.out j hj hz
    obtain ⟨a, c, c0, hc0⟩ := HN.out j hlt
    have HZ : Hid (N j = 0 ∨ N j = s → ∀ k, k < j + 1 → N k = 0 ∨ N k = s) := hide fun h k hk => by
      by_cases e : k = j
      · rw [e]; exact h
      · exact hz k (by omega)
    clear hz HX HN
    by_cases e0 : N j = 0
    · have HZ2 := hide (HZ.out (.inl e0))
      rw [e0] at c0
      clear HZ hc0 e0
      cases b with
      | false =>
        go_wp2_with fail
        go_roundw
        case rel => exact ⟨j + 1, true, by omega, by go_num, rfl, by first | rfl | trivial, HZ2.out⟩
        case measure => simp [intOf]; omega
      | true =>
        go_wp2_with fail
        go_roundw
        case rel => exact ⟨j + 1, true, by omega, by go_num, rfl, by first | rfl | trivial, HZ2.out⟩
        case measure => simp [intOf]; omega
    · by_cases e1 : N j = s
      · have HZ2 := hide (HZ.out (.inr e1))
        rw [e1] at c0
        clear HZ hc0 e0 e1
        have e1 : ((s : Int) == 0) = false := by simp; omega
        have e2 : ((s : Int) != 0) = true := by simp; omega
        have e3 : ((s : Int) != (s : Int)) = false := by simp
        cases b with
        | false =>
          go_wp2_with fail
          go_roundw
          case rel => exact ⟨j + 1, false, by omega, by go_num, rfl, by first | rfl | trivial, HZ2.out⟩
          case measure => simp [intOf]; omega
        | true =>
          go_wp2_with fail
          go_roundw
          case rel => exact ⟨j + 1, true, by omega, by go_num, rfl, by first | rfl | trivial, HZ2.out⟩
          case measure => simp [intOf]; omega
      · clear HZ
        generalize N j = K at *
        have e2 : ((K : Int) != 0) = true := by simp; omega
        have e3 : ((K : Int) != (s : Int)) = true := by simp; omega
        go_wp2_with fail
        (try simp only [Exit.inBlock, Exit.then]); refine bodyPost_ret (results_tmp3 rfl _ _ _) rfl ?_
        exact ⟨rfl, rfl⟩
end Go.Proofs.Ytepgiomgkgfioaa
