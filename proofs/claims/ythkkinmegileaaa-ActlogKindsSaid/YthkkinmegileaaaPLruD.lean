import Derived.Test.YthkkinmegileaaaPLruC
namespace Go.Proofs.Ythkkinmegileaaa.Sp
open Go.RowKit Go.Sort
set_option linter.unusedVariables false
set_option linter.unusedSimpArgs false
set_option maxRecDepth 20000

theorem new_no (w : World) (n : Int) (h : ¬ (1 ≤ n ∧ n ≤ 16)) : Calls Try.prog 7 #[.int .i64 n] w fun e w' => e = .returned (.tuple #[.pointer none, .int .i64 1]) ∧ w' = w := by
  have HV := hide (validSlots_any w n)
  rw [decide_eq_false h] at HV
  go_enter Try.func7, Try.ntmps7
  go_wp2_with (first
    | (go_at_call 18; refine HV.out.mono ?_; rintro e w2 ⟨rfl, rfl⟩))
  go_ret2
  exact ⟨rfl, rfl⟩
theorem new_any (w : World) (n : Nat) (h1 : 1 ≤ n) (h2 : n ≤ 16) : Calls Try.prog 7 #[.int .i64 (n : Int)] w fun e w' => e = .returned (.tuple #[.pointer (some ⟨w.heap.size + 1, 0, none⟩), .int .i64 0]) ∧ LRep w' (w.heap.size + 1) w.heap.size (.slice none 0 0) (.slice none 0 0) (.slice none 0 0) ⟨n, [], [], [], []⟩ ∧ Below w.heap.size w w' := by
  have HV := hide (validSlots_any w (n : Int))
  rw [decide_eq_true (by omega)] at HV
  have hmm := fun W : World => run_makeMap (P := Try.prog) 75 W
  have HF : Hid (LRep ((w.alloc (.map #[] 0)).alloc (.cells #[.int .i64 (n : Int), .map (some w.heap.size), .slice none 0 0, .slice none 0 0, .slice none 0 0] 78)) (w.heap.size + 1) w.heap.size (.slice none 0 0) (.slice none 0 0) (.slice none 0 0) ⟨n, [], [], [], []⟩ ∧ Below w.heap.size w ((w.alloc (.map #[] 0)).alloc (.cells #[.int .i64 (n : Int), .map (some w.heap.size), .slice none 0 0, .slice none 0 0, .slice none 0 0] 78))) := hide (by
    have hb := ((Below.refl w.heap.size w).alloc (Nat.le_refl _) (.map #[] 0)).alloc (by simp) (.cells #[.int .i64 (n : Int), .map (some w.heap.size), .slice none 0 0, .slice none 0 0, .slice none 0 0] 78)
    refine ⟨⟨?_, (MP.new w).kept (Below.heap_alloc _ _ _ (by simp)), ⟨rfl, .inl ⟨rfl, rfl⟩⟩, ⟨rfl, .inl ⟨rfl, rfl⟩⟩, ⟨rfl, .inl ⟨rfl, rfl⟩⟩, fun b e => by simp [Value.ownBlock] at e, fun b e => by simp [Value.ownBlock] at e⟩, hb⟩
    have := Go.heap_alloc_new (w.alloc (.map #[] 0)) (.cells #[.int .i64 (n : Int), .map (some w.heap.size), .slice none 0 0, .slice none 0 0, .slice none 0 0] 78)
    rw [World.size_alloc] at this
    exact this)
  go_enter Try.func7, Try.ntmps7
  go_wp2_with (first
    | (go_at_call 18; refine HV.out.mono ?_; rintro e w2 ⟨rfl, rfl⟩))
  go_ret2
  exact ⟨rfl, HF.out.1, HF.out.2⟩
set_option maxHeartbeats 1000000 in
/-- the pair that stands for a number -/
theorem spot_any (w : World) (z : Int) (h : i64ok z) : Calls Try.prog 30 #[.int .i64 z] w fun e w' => e = .returned (.agg #[.int .i64 (pA z), .int .u8 (pB z)]) ∧ Below w.heap.size w w' := by
  have h1 := pA_ok h
  unfold i64ok at h
  have e := Int.mul_tdiv_add_tmod z 3
  have g1 := Int.tmod_lt_of_pos z (show (0 : Int) < 3 by omega)
  have g2 := Int.lt_tmod_of_pos z (show (0 : Int) < 3 by omega)
  go_enter Try.func30, Try.ntmps30
  go_wp2
  refine bodyPost_ret (results_row (p := 2) rfl _ _ w.heap.size 34 #[.int .i64 (z.tdiv 3), .int .u8 (z.tmod 3 % 256)] (0, 0) _ (by kernel_rfl) (Go.heap_alloc_new w _) Try.underlying34 rfl info2) rfl ⟨?_, (Below.refl w.heap.size w).alloc (Nat.le_refl _) _⟩
  rw [pB_val]
  rfl
end Go.Proofs.Ythkkinmegileaaa.Sp
