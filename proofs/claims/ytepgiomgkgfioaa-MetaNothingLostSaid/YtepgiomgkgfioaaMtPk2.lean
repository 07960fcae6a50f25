import Derived.Test.YtepgiomgkgfioaaMtBw
namespace Go.Proofs.Ytepgiomgkgfioaa
open Go.RowKit
open Num
set_option linter.unusedVariables false
set_option linter.unusedSimpArgs false
set_option maxRecDepth 20000

/-- Pack of a wrong count of words -/
theorem pack_size (w : World) (n s : Nat) (v : Value) (ws : List Nat) (hv : USl w v ws) (hs : okSz (s : Int) = true) (h1 : 1 ≤ n) (h2 : n ≤ 65536) (hl : ¬ ws.length = (n + 63) / 64) : Calls Try.prog 8 #[.int .i64 (n : Int), v, .int .i64 (s : Int)] w fun e w' => e = .returned (.tuple #[.slice none 0 0, .int .i64 3]) ∧ w' = w := by
  have HVB := hide fun x => validBits_any x (n : Int)
  rw [decide_eq_true (by omega), decide_eq_true (by omega)] at HVB
  have HVS := hide fun x => validSize_any x (s : Int)
  rw [hs] at HVS
  have HWC := hide fun x => wordCount_any x n h2
  obtain ⟨a, cap, rfl, q1, q2, q3, q4⟩ := hv
  clear q3 q4
  unfold maxLen at q2
  generalize (n + 63) / 64 = L at *
  generalize ws.length = K at *
  have hne : ((K : Int) != (L : Int)) = true := by simp; omega
  go_enter Try.func8, Try.ntmps8
  go_wp2_with (first
    | (go_at_call 22; refine (HVB.out _).mono ?_; rintro e w1 ⟨rfl, hw1⟩; have hws := hw1.symm; clear hw1; subst hws)
    | (go_at_call 23; refine (HVS.out _).mono ?_; rintro e w1 ⟨rfl, hw1⟩; have hws := hw1.symm; clear hw1; subst hws)
    | (go_at_call 24; refine (HWC.out _).mono ?_; rintro e w1 ⟨rfl, hw1⟩; have hws := hw1.symm; clear hw1; subst hws))
  (try simp only [Exit.inBlock, Exit.then]); refine bodyPost_ret (results_tmp2 rfl _ _ _) rfl ?_
  exact ⟨rfl, rfl⟩
/-- Pack of words with a bit at or above n -/
theorem pack_range (w : World) (n s : Nat) (v : Value) (ws : List Nat) (hv : USl w v ws) (hs : okSz (s : Int) = true) (h1 : 1 ≤ n) (h2 : n ≤ 65536) (hl : ws.length = (n + 63) / 64) (hlast : (bits BinOp.andNot IntKind.u64 (ws.getD ((n + 63) / 64 - 1) 0 : Nat) (lm n : Nat) != 0) = true) : Calls Try.prog 8 #[.int .i64 (n : Int), v, .int .i64 (s : Int)] w fun e w' => e = .returned (.tuple #[.slice none 0 0, .int .i64 2]) ∧ ∃ q, w' = w.drewN q := by
  have HVB := hide fun x => validBits_any x (n : Int)
  rw [decide_eq_true (by omega), decide_eq_true (by omega)] at HVB
  have HVS := hide fun x => validSize_any x (s : Int)
  rw [hs] at HVS
  have HWC := hide fun x => wordCount_any x n h2
  have HLM := hide fun x => lastMask_any x n h2
  obtain ⟨a, cap, rfl, q1, q2, q3, q4⟩ := hv
  obtain ⟨b, off, rfl, hlb, hc⟩ := q4 (by omega)
  have cl := hc (ws.length - 1) (by omega)
  rw [hl] at cl q1 ⊢
  unfold maxLen at q2
  clear hs q3 q4 hc hl
  have hLb : 1 ≤ (n + 63) / 64 ∧ (n + 63) / 64 ≤ 1024 := by omega
  generalize (n + 63) / 64 = L at *
  generalize hx : ws.getD (L - 1) 0 = x at *
  obtain ⟨L', rfl⟩ : ∃ L', L = L' + 1 := ⟨L - 1, by omega⟩
  rw [Nat.add_sub_cancel] at cl
  have hli : ((L' : Int) + 1 - 1) = (L' : Int) := by omega
  go_enter Try.func8, Try.ntmps8
  go_wp2_with (first
    | (go_at_call 22; refine (HVB.out _).mono ?_; rintro e w1 ⟨rfl, hw1⟩; have hws := hw1.symm; clear hw1; subst hws)
    | (go_at_call 23; refine (HVS.out _).mono ?_; rintro e w1 ⟨rfl, hw1⟩; have hws := hw1.symm; clear hw1; subst hws)
    | (go_at_call 24; refine (HWC.out _).mono ?_; rintro e w1 ⟨rfl, hw1⟩; have hws := hw1.symm; clear hw1; subst hws))
  go_quiet ((go_at_call 25; exact Calls.quiet_of_same (HLM.out _)))
  go_wp2_with fail
  (try simp only [Exit.inBlock, Exit.then]); refine bodyPost_ret (results_tmp2 rfl _ _ _) rfl ?_
  exact ⟨rfl, nq, rfl⟩
end Go.Proofs.Ytepgiomgkgfioaa
