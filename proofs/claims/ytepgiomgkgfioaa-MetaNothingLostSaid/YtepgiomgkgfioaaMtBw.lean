import Derived.Test.YtepgiomgkgfioaaMtBm
namespace Go.Proofs.Ytepgiomgkgfioaa
open Go.RowKit
open Num
set_option linter.unusedVariables false
set_option linter.unusedSimpArgs false
set_option maxRecDepth 20000

/-- the words as the law makes them, ahead of the mask -/
def padW (L : Nat) (seed : List Nat) : List Nat := (List.range L).map fun i => seed.getD i 0
def wdL (n : Nat) (seed : List Nat) : List Nat := (padW ((n + 63) / 64) seed).set ((n + 63) / 64 - 1) (seed.getD ((n + 63) / 64 - 1) 0 % 2 ^ lr n)
theorem padW_len (L : Nat) (seed : List Nat) : (padW L seed).length = L := by simp [padW]
theorem padW_get {L i : Nat} {seed : List Nat} (h : i < L) : (padW L seed).getD i 0 = seed.getD i 0 := by simp [padW, List.getD, h]
theorem padW_end {L i : Nat} {seed : List Nat} (hi : i ≤ L) (h : i = L ∨ seed.length ≤ i) : (padW L seed).take i ++ List.replicate (L - i) 0 = padW L seed := by
  refine List.ext_getElem (by simp [padW]; omega) fun k h1 h2 => ?_
  rw [padW_len] at h2
  by_cases hk : k < i
  · rw [List.getElem_append_left (by simp [padW]; omega), List.getElem_take]
  · rw [List.getElem_append_right (by simp [padW]; omega)]
    simp only [List.getElem_replicate, padW, List.getElem_map, List.getElem_range]
    rcases h with h | h
    · omega
    · rw [List.getD_eq_getElem?_getD, List.getElem?_eq_none (by omega)]; rfl
theorem pack_bad (w : World) (n s : Int) (v : Value) (h : (decide (1 ≤ n) && decide (n ≤ 65536)) = false ∨ okSz s = false) : Calls Try.prog 8 #[.int .i64 n, v, .int .i64 s] w fun e w' => e = .returned (.tuple #[.slice none 0 0, .int .i64 1]) ∧ w' = w := by
  have HVB := hide fun x => validBits_any x n
  have HVS := hide fun x => validSize_any x s
  cases hb : (decide (1 ≤ n) && decide (n ≤ 65536)) with
  | false =>
    rw [hb] at HVB
    clear h hb
    go_enter Try.func8, Try.ntmps8
    go_wp2_with (first
      | (go_at_call 22; refine (HVB.out _).mono ?_; rintro e w1 ⟨rfl, hw1⟩; have hws := hw1.symm; clear hw1; subst hws))
    (try simp only [Exit.inBlock, Exit.then]); refine bodyPost_ret (results_tmp2 rfl _ _ _) rfl ?_
    exact ⟨rfl, rfl⟩
  | true =>
    rw [hb] at HVB
    have hs : okSz s = false := h.resolve_left (by rw [hb]; simp)
    rw [hs] at HVS
    clear h hb
    go_enter Try.func8, Try.ntmps8
    go_wp2_with (first
      | (go_at_call 22; refine (HVB.out _).mono ?_; rintro e w1 ⟨rfl, hw1⟩; have hws := hw1.symm; clear hw1; subst hws)
      | (go_at_call 23; refine (HVS.out _).mono ?_; rintro e w1 ⟨rfl, hw1⟩; have hws := hw1.symm; clear hw1; subst hws))
    (try simp only [Exit.inBlock, Exit.then]); refine bodyPost_ret (results_tmp2 rfl _ _ _) rfl ?_
    exact ⟨rfl, rfl⟩
end Go.Proofs.Ytepgiomgkgfioaa
