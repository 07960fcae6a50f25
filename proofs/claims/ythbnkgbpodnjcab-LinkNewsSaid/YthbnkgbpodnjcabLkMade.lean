import Derived.Test.YthbnkgbpodnjcabLkNew
import Derived.Test.YthbnkgbpodnjcabByt
import Derived.Deep.RegionHeld3
import Derived.StillTailTactics
namespace Go.Proofs.Ythbnkgbpodnjcab
open Go.RowKit
set_option linter.unusedVariables false
set_option linter.unusedSimpArgs false
set_option maxRecDepth 20000

/-- a pair of new links -/
structure NP (w x : World) (pp kb rb : Nat) (a b c d : Int) : Prop where
  p : x.heap[pp]? = some (.cells #[.pointer (some ⟨kb, 0, none⟩), .pointer (some ⟨rb, 0, none⟩), .bool false, .slice none 0 0, .int .i64 0, .bool false, .slice none 0 0, .slice none 0 0, .slice none 0 0] 34 (0, 0))
  k : x.heap[kb]? = some (.cells (kRow a b c d) 63 (0, 0))
  r : x.heap[rb]? = some (.cells (rRow a b c d) 66 (0, 0))
  lo : w.heap.size ≤ kb ∧ w.heap.size ≤ rb
  bel : Below w.heap.size w x
theorem NP.below {w x y : World} {pp kb rb : Nat} {a b c d : Int} (h : NP w x pp kb rb a b c d) (hb : Below x.heap.size x y) : NP w y pp kb rb a b c d :=
  ⟨(hb.block _ (Array.getElem?_eq_some_iff.1 h.p).1).trans h.p, (hb.block _ (Array.getElem?_eq_some_iff.1 h.k).1).trans h.k, (hb.block _ (Array.getElem?_eq_some_iff.1 h.r).1).trans h.r, h.lo, h.bel.trans (hb.mono h.bel.size)⟩

theorem four_new (w : World) (M P K R : Obj) : ((((w.alloc M).alloc P).alloc K).alloc R).heap[w.heap.size + 1]? = some P ∧ ((((w.alloc M).alloc P).alloc K).alloc R).heap[w.heap.size + 1 + 1]? = some K ∧ ((((w.alloc M).alloc P).alloc K).alloc R).heap[w.heap.size + 1 + 1 + 1]? = some R := by
  have s1 : (w.alloc M).heap.size = w.heap.size + 1 := by simp
  have s2 : ((w.alloc M).alloc P).heap.size = w.heap.size + 1 + 1 := by simp
  have s3 : (((w.alloc M).alloc P).alloc K).heap.size = w.heap.size + 1 + 1 + 1 := by simp
  refine ⟨?_, ?_, ?_⟩
  · rw [RowKit.Below.heap_alloc _ _ _ (by omega), RowKit.Below.heap_alloc _ _ _ (by omega), ← s1]; exact Go.heap_alloc_new _ _
  · rw [RowKit.Below.heap_alloc _ _ _ (by omega), ← s2]; exact Go.heap_alloc_new _ _
  · rw [← s3]; exact Go.heap_alloc_new _ _
theorem four_bel (w : World) (M P K R : Obj) : Below w.heap.size w ((((w.alloc M).alloc P).alloc K).alloc R) :=
  ((((Below.refl _ w).alloc (Nat.le_refl _) _).alloc (by simp) _).alloc (by simp; omega) _).alloc (by simp; omega) _

set_option maxHeartbeats 1000000 in
theorem made_yes (w : World) (a b c d : Int) (h : okN a b c d = true) : Calls Try.prog 9 #[.agg #[.int .i64 a, .int .i64 b, .int .i64 c, .int .i64 d]] w fun e w' => ∃ pp kb rb, e = .returned (.tuple #[.pointer (some ⟨pp, 0, none⟩), .bool true]) ∧ NP w w' pp kb rb a b c d := by
  have HK := hide fun y => kNew_yes y a b c d h
  have HR := hide fun y => rNew_yes y a b c d h
  unfold kRow at HK
  unfold rRow at HR
  clear h
  go_enter Try.func9, Try.ntmps9
  go_wp2_with (first
    | (go_at_call 12; refine (HK.out _).mono ?_; rintro e' w2 ⟨rfl, hw2⟩; subst hw2; clear HK)
    | (go_at_call 13; refine (HR.out _).mono ?_; rintro e' w2 ⟨rfl, hw2⟩; subst hw2; clear HR))
  go_quiet (fail)
  go_wp2_with fail
  go_ret2
  refine ⟨w.heap.size + 1, w.heap.size + 1 + 1, w.heap.size + 1 + 1 + 1, rfl, ?_, ?_, ?_, ?_, ?_⟩
  · exact (four_new w _ _ _ _).1
  · exact (four_new w _ _ _ _).2.1
  · exact (four_new w _ _ _ _).2.2
  · exact ⟨by omega, by omega⟩
  · exact (four_bel w _ _ _ _).trans ⟨rfl, rfl, rfl, Nat.le_refl _, fun _ _ => rfl⟩
theorem made_no (w : World) (a b c d : Int) (h : okN a b c d = false) : Calls Try.prog 9 #[.agg #[.int .i64 a, .int .i64 b, .int .i64 c, .int .i64 d]] w fun e w' => ∃ pp, e = .returned (.tuple #[.pointer (some ⟨pp, 0, none⟩), .bool true]) ∧ w'.cell? ⟨pp, 0, none⟩ = some (.pointer none) ∧ Below w.heap.size w w' := by
  have HK := hide fun y => kNew_no y a b c d h
  have HR := hide fun y => rNew_no y a b c d h
  clear h
  go_enter Try.func9, Try.ntmps9
  go_wp2_with (first
    | (go_at_call 12; refine (HK.out _).mono ?_; rintro e' w2 ⟨rfl, hw2⟩; subst hw2; clear HK)
    | (go_at_call 13; refine (HR.out _).mono ?_; rintro e' w2 ⟨rfl, hw2⟩; subst hw2; clear HR))
  go_quiet (fail)
  go_wp2_with fail
  go_ret2
  exact ⟨_, rfl, by simp [go_sem], (((Below.refl _ w).alloc (Nat.le_refl _) _).alloc (by simp) _).trans ⟨rfl, rfl, rfl, Nat.le_refl _, fun _ _ => rfl⟩⟩
set_option maxHeartbeats 1000000 in
theorem kState_new (w : World) (kb : Nat) (a b c d : Int) (h : w.heap[kb]? = some (.cells (kRow a b c d) 63 (0, 0))) : Calls Try.prog 15 #[.pointer (some ⟨kb, 0, none⟩)] w fun e w' => e = .returned (.int .i64 0) ∧ w' = w := by
  have c0 : w.cell? ⟨kb, 4, none⟩ = some (.int .i64 0) := by rw [cell_of_row _ _ _ _ _ _ h]; rfl
  clear h
  go_enter Try.func15, Try.ntmps15
  go_wp2
  go_ret
  exact ⟨rfl, rfl⟩
set_option maxHeartbeats 1000000 in
theorem rState_new (w : World) (kb : Nat) (a b c d : Int) (h : w.heap[kb]? = some (.cells (rRow a b c d) 66 (0, 0))) : Calls Try.prog 16 #[.pointer (some ⟨kb, 0, none⟩)] w fun e w' => e = .returned (.int .i64 0) ∧ w' = w := by
  have c0 : w.cell? ⟨kb, 4, none⟩ = some (.int .i64 0) := by rw [cell_of_row _ _ _ _ _ _ h]; rfl
  clear h
  go_enter Try.func16, Try.ntmps16
  go_wp2
  go_ret
  exact ⟨rfl, rfl⟩
set_option maxHeartbeats 1000000 in
theorem kPeer_new (w : World) (kb : Nat) (a b c d : Int) (h : w.heap[kb]? = some (.cells (kRow a b c d) 63 (0, 0))) : Calls Try.prog 17 #[.pointer (some ⟨kb, 0, none⟩)] w fun e w' => e = .returned (.int .u32 0) ∧ w' = w := by
  have c0 : w.cell? ⟨kb, 7, none⟩ = some (.int .u32 0) := by rw [cell_of_row _ _ _ _ _ _ h]; rfl
  clear h
  go_enter Try.func17, Try.ntmps17
  go_wp2
  go_ret
  exact ⟨rfl, rfl⟩
set_option maxHeartbeats 1000000 in
theorem rPeer_new (w : World) (kb : Nat) (a b c d : Int) (h : w.heap[kb]? = some (.cells (rRow a b c d) 66 (0, 0))) : Calls Try.prog 18 #[.pointer (some ⟨kb, 0, none⟩)] w fun e w' => e = .returned (.int .u32 0) ∧ w' = w := by
  have c0 : w.cell? ⟨kb, 7, none⟩ = some (.int .u32 0) := by rw [cell_of_row _ _ _ _ _ _ h]; rfl
  clear h
  go_enter Try.func18, Try.ntmps18
  go_wp2
  go_ret
  exact ⟨rfl, rfl⟩
set_option maxHeartbeats 1000000 in
theorem kFlight_new (w : World) (kb : Nat) (a b c d : Int) (h : w.heap[kb]? = some (.cells (kRow a b c d) 63 (0, 0))) : Calls Try.prog 19 #[.pointer (some ⟨kb, 0, none⟩)] w fun e w' => e = .returned (.tuple #[.int .i64 0, .int .i64 0]) ∧ Below w.heap.size w w' := by
  have c0 : w.cell? ⟨kb, 11, none⟩ = some (.int .i64 0) := by rw [cell_of_row _ _ _ _ _ _ h]; rfl
  have c1 : w.cell? ⟨kb, 10, none⟩ = some (.slice none 0 0) := by rw [cell_of_row _ _ _ _ _ _ h]; rfl
  clear h
  go_enter Try.func19, Try.ntmps19
  go_wp2
  go_quiet (fail)
  go_wp2
  go_ret2
  exact ⟨rfl, ⟨rfl, rfl, rfl, Nat.le_refl _, fun _ _ => rfl⟩⟩
set_option maxHeartbeats 1000000 in
theorem rFlight_new (w : World) (kb : Nat) (a b c d : Int) (h : w.heap[kb]? = some (.cells (rRow a b c d) 66 (0, 0))) : Calls Try.prog 20 #[.pointer (some ⟨kb, 0, none⟩)] w fun e w' => e = .returned (.tuple #[.int .i64 0, .int .i64 0]) ∧ Below w.heap.size w w' := by
  have c0 : w.cell? ⟨kb, 10, none⟩ = some (.slice none 0 0) := by rw [cell_of_row _ _ _ _ _ _ h]; rfl
  have c1 : w.cell? ⟨kb, 11, none⟩ = some (.int .i64 0) := by rw [cell_of_row _ _ _ _ _ _ h]; rfl
  have c2 : w.cell? ⟨kb, 12, none⟩ = some (.int .i64 0) := by rw [cell_of_row _ _ _ _ _ _ h]; rfl
  clear h
  go_enter Try.func20, Try.ntmps20
  go_wp2
  go_quiet (fail)
  go_wp2
  go_ret2
  exact ⟨rfl, ⟨rfl, rfl, rfl, Nat.le_refl _, fun _ _ => rfl⟩⟩
set_option maxHeartbeats 1000000 in
theorem kOut_new (w : World) (kb : Nat) (a b c d : Int) (h : w.heap[kb]? = some (.cells (kRow a b c d) 63 (0, 0))) : Calls Try.prog 38 #[.pointer (some ⟨kb, 0, none⟩)] w fun e w' => e = .returned (.slice none 0 0) ∧ w' = w.setCell ⟨kb, 15, none⟩ (.slice none 0 0) := by
  have c0 : w.cell? ⟨kb, 15, none⟩ = some (.slice none 0 0) := by rw [cell_of_row _ _ _ _ _ _ h]; rfl
  have c1 : w.frozen? ⟨kb, 15, none⟩ = false := frozen_of_row _ _ _ _ _ h
  clear h
  go_enter Try.func38, Try.ntmps38
  go_wp2
  go_ret
  exact ⟨rfl, rfl⟩
set_option maxHeartbeats 1000000 in
theorem rOut_new (w : World) (kb : Nat) (a b c d : Int) (h : w.heap[kb]? = some (.cells (rRow a b c d) 66 (0, 0))) : Calls Try.prog 39 #[.pointer (some ⟨kb, 0, none⟩)] w fun e w' => e = .returned (.slice none 0 0) ∧ w' = w.setCell ⟨kb, 17, none⟩ (.slice none 0 0) := by
  have c0 : w.cell? ⟨kb, 17, none⟩ = some (.slice none 0 0) := by rw [cell_of_row _ _ _ _ _ _ h]; rfl
  have c1 : w.frozen? ⟨kb, 17, none⟩ = false := frozen_of_row _ _ _ _ _ h
  clear h
  go_enter Try.func39, Try.ntmps39
  go_wp2
  go_ret
  exact ⟨rfl, rfl⟩
set_option maxHeartbeats 1000000 in
theorem sameLists_nil (w : World) : Calls Try.prog 36 #[.slice none 0 0, .slice none 0 0] w fun e w' => e = .returned (.bool true) ∧ w' = w := by
  go_enter Try.func36, Try.ntmps36
  go_wp2
  go_loop [5] (fun i => i = .int .i64 0) (fun _ => 0)
  case atStart => rfl
  case round =>
    subst hrel
    go_wp2
    go_ret
    exact ⟨rfl, rfl⟩
end Go.Proofs.Ythbnkgbpodnjcab
