import Derived.Test.YtnjlbkbhlcccmaaDoorBLay
namespace Go.Proofs.YtnjlbkbhlcccmaaDoor
open Go.RowKit
set_option linter.unusedVariables false
set_option linter.unusedSimpArgs false
set_option maxRecDepth 20000

theorem info_u64 : (Tryd.prog.info? 63).map (fun i => (i.zero, i.size, i.bytes)) = some (some (.int .u64 0), 1, 8) := by kernel_rfl
theorem size_u64 : (Tryd.prog.info? 63).map (·.size) = some 1 := by kernel_rfl
theorem up_zero : ∀ m, up 0 m = 0
  | 0 => rfl
  | m + 1 => by rw [up, if_pos wd_zero, up_zero m]
theorem made_words (n : Nat) : madeCells (Value.int .u64 0).cells (n * 1) = wrow (wds 0 n) := by
  apply Array.ext_getElem?
  intro i
  by_cases h : i < n
  · rw [wrow_get (by rw [wds_len]; exact h), wds_get h, wd_zero]
    simp [madeCells, Value.cells, h, Nat.mod_one]
  · rw [Array.getElem?_eq_none (by rw [size_madeCells]; omega), Array.getElem?_eq_none (by simp [wrow_size, wds_len]; omega)]
theorem run_words (n : Nat) (hn : n ≤ 35184372088832) (w : World) :
    (Instr.makeSlice 22 (.int .i64 (n : Int)) (.int .i64 (n : Int))).run Tryd.prog w = .ok (.slice (some ⟨w.heap.size, 0, none⟩) n n) (w.alloc (.cells (wrow (wds 0 n)) 63)) := by
  obtain ⟨i0, hi, hz0, hz1, hz2⟩ := info_parts info_u64
  have hr := run_make (P := Tryd.prog) w 22 63 i0 (.int .u64 0) Tryd.underlying22 hi hz0 .i64 .i64 (n : Int) (n : Int) (by omega) (Int.le_refl _) (by rw [hz2]; omega) (by omega)
  simp only [Int.toNat_natCast] at hr
  rw [hz1, made_words n] at hr
  exact hr

theorem validLen_any (w : World) (n : Int) : Calls Tryd.prog 29 #[.int .i64 n] w fun e w' => e = .returned (.bool (decide (1 ≤ n ∧ n ≤ 65536))) ∧ w' = w := by
  by_cases h1 : 1 ≤ n <;> by_cases h2 : n ≤ 65536
  all_goals
    go_enter Tryd.func29, Tryd.ntmps29
    go_wp2
    go_ret
    simp [h1, h2]
theorem wordsFor_any (w : World) (n : Nat) (hn : n ≤ 1000000) : Calls Tryd.prog 30 #[.int .i64 (n : Int)] w fun e w' => e = .returned (.int .i64 ((nW n : Nat) : Int)) ∧ w' = w := by
  go_enter Tryd.func30, Tryd.ntmps30
  go_wp2
  go_ret
  exact ⟨ret_int (by unfold nW; omega), rfl⟩

theorem New_no (w : World) (n : Int) (h : ¬ (1 ≤ n ∧ n ≤ 65536)) : Calls Tryd.prog 14 #[.int .i64 n] w fun e w' => e = .returned (.tuple #[.pointer none, .int .i64 1]) ∧ w' = w := by
  have hv := validLen_any w n
  rw [decide_eq_false h] at hv
  have HV := hide hv
  clear hv
  go_enter Tryd.func14, Tryd.ntmps14
  go_wp2_with (go_at_call 29; refine HV.out.mono ?_; rintro e w' ⟨rfl, rfl⟩)
  go_ret2
  exact ⟨rfl, rfl⟩

theorem BRep.made {w w' : World} {n lo hi : Nat} (h1 : 1 ≤ n) (h2 : n ≤ 65536) (hlo : w'.heap[lo]? = some (.cells (wrow (wds 0 (nW n))) 63 (0, 0))) (hhi : w'.heap[hi]? = some (.cells (wrow (wds 0 (nW (nW n)))) 63 (0, 0))) (hne : lo ≠ hi) :
    BRep (w'.alloc (.cells #[.int .i64 (n : Int), .slice (some ⟨lo, 0, none⟩) (nW n) (nW n), .slice (some ⟨hi, 0, none⟩) (nW (nW n)) (nW (nW n))] 74)) ⟨w'.heap.size, lo, hi⟩ n 0 := by
  refine ⟨h1, h2, Nat.two_pow_pos _, Go.heap_alloc_new _ _, ?_, ?_, hne⟩
  · rw [Below.heap_alloc _ _ _ (Array.getElem?_eq_some_iff.1 hlo).1]; exact hlo
  · rw [Below.heap_alloc _ _ _ (Array.getElem?_eq_some_iff.1 hhi).1, up_zero]; exact hhi

/-- a new bitmap: its blocks are new -/
def BNewAt (w w' : World) (L : BL) (n B : Nat) : Prop := BRep w' L n B ∧ Below w.heap.size w w' ∧ ∀ b, L.U b → w.heap.size ≤ b

theorem new_fin1 (w : World) {n m1 m2 : Nat} {Z1 Z2 : Array Value} (HM : Hid (∀ (w' : World) (lo hi : Nat), w'.heap[lo]? = some (.cells Z1 63 (0, 0)) → w'.heap[hi]? = some (.cells Z2 63 (0, 0)) → lo ≠ hi →
      BRep (w'.alloc (.cells #[.int .i64 (n : Int), .slice (some ⟨lo, 0, none⟩) m1 m1, .slice (some ⟨hi, 0, none⟩) m2 m2] 74)) ⟨w'.heap.size, lo, hi⟩ n 0)) :
    BNewAt w (((w.alloc (.cells Z1 63)).alloc (.cells Z2 63)).alloc (.cells #[.int .i64 (n : Int), .slice (some ⟨w.heap.size, 0, none⟩) m1 m1, .slice (some ⟨w.heap.size + 1, 0, none⟩) m2 m2] 74)).drew ⟨w.heap.size + 1 + 1, w.heap.size, w.heap.size + 1⟩ n 0 := by
  refine ⟨?_, ?_, ?_⟩
  · have h := HM.out ((w.alloc (.cells Z1 63)).alloc (.cells Z2 63)) w.heap.size (w.heap.size + 1) ((Below.heap_alloc _ _ _ (by simp)).trans (Go.heap_alloc_new w _)) (by have := Go.heap_alloc_new (w.alloc (.cells Z1 63)) (.cells Z2 63); rwa [World.size_alloc] at this) (by omega)
    simp only [World.size_alloc] at h
    exact h.kept fun _ _ => rfl
  · exact ((((Below.refl _ _).alloc (Nat.le_refl _) _).alloc (by simp) _).alloc (by simp; omega) _).drew
  · rintro b (rfl | rfl | rfl) <;> dsimp only <;> omega
theorem new_fin2 (w : World) {n m1 m2 : Nat} {Z1 Z2 : Array Value} (HM : Hid (∀ (w' : World) (lo hi : Nat), w'.heap[lo]? = some (.cells Z1 63 (0, 0)) → w'.heap[hi]? = some (.cells Z2 63 (0, 0)) → lo ≠ hi →
      BRep (w'.alloc (.cells #[.int .i64 (n : Int), .slice (some ⟨lo, 0, none⟩) m1 m1, .slice (some ⟨hi, 0, none⟩) m2 m2] 74)) ⟨w'.heap.size, lo, hi⟩ n 0)) :
    BNewAt w (((w.alloc (.cells Z2 63)).alloc (.cells Z1 63)).alloc (.cells #[.int .i64 (n : Int), .slice (some ⟨w.heap.size + 1, 0, none⟩) m1 m1, .slice (some ⟨w.heap.size, 0, none⟩) m2 m2] 74)).drew ⟨w.heap.size + 1 + 1, w.heap.size + 1, w.heap.size⟩ n 0 := by
  refine ⟨?_, ?_, ?_⟩
  · have h := HM.out ((w.alloc (.cells Z2 63)).alloc (.cells Z1 63)) (w.heap.size + 1) w.heap.size (by have := Go.heap_alloc_new (w.alloc (.cells Z2 63)) (.cells Z1 63); rwa [World.size_alloc] at this) ((Below.heap_alloc _ _ _ (by simp)).trans (Go.heap_alloc_new w _)) (by omega)
    simp only [World.size_alloc] at h
    exact h.kept fun _ _ => rfl
  · exact ((((Below.refl _ _).alloc (Nat.le_refl _) _).alloc (by simp) _).alloc (by simp; omega) _).drew
  · rintro b (rfl | rfl | rfl) <;> dsimp only <;> omega

set_option maxHeartbeats 1000000 in
theorem New_any (w : World) (n : Nat) (h1 : 1 ≤ n) (h2 : n ≤ 65536) : Calls Tryd.prog 14 #[.int .i64 (n : Int)] w fun e w' => ∃ L, e = .returned (.tuple #[PB L, .int .i64 0]) ∧ BNewAt w w' L n 0 := by
  have hv := validLen_any w (n : Int)
  rw [decide_eq_true (by omega)] at hv
  have HV := hide hv
  have HM := hide (fun w' lo hi a b c => BRep.made (w := w) (w' := w') (n := n) (lo := lo) (hi := hi) h1 h2 a b c)
  have hW : nW n ≤ 1024 := by unfold nW; omega
  have hWW : nW (nW n) ≤ 1024 := by unfold nW at *; omega
  have hmk1 := run_words (nW n) (by omega)
  have hmk2 := run_words (nW (nW n)) (by omega)
  have HW1 := hide (fun w => wordsFor_any w n (by omega))
  have HW2 := hide (fun w => wordsFor_any w (nW n) (by omega))
  clear hv
  generalize hZ1 : wrow (wds 0 (nW n)) = Z1 at *
  generalize hZ2 : wrow (wds 0 (nW (nW n))) = Z2 at *
  clear hZ1 hZ2
  unfold PB
  generalize hm2 : nW (nW n) = m2 at *
  generalize hm1 : nW n = m1 at *
  clear hm1 hm2
  go_enter Tryd.func14, Tryd.ntmps14
  go_wp2_with (first
    | (go_at_call 29; refine HV.out.mono ?_; rintro e w' ⟨rfl, rfl⟩)
    | (go_at_call 30; refine (HW1.out _).mono ?_; rintro e w' ⟨rfl, rfl⟩))
  go_region_held3 (fun w' => True) (trivial) ((go_at_call 30; refine (HW2.out _).mono ?_; rintro e w' ⟨rfl, rfl⟩))
  all_goals
    go_wp2_with fail
    go_ret2
    first
      | exact ⟨⟨_ + 1 + 1, _, _ + 1⟩, rfl, new_fin1 _ HM⟩
      | exact ⟨⟨_ + 1 + 1, _ + 1, _⟩, rfl, new_fin2 _ HM⟩
end Go.Proofs.YtnjlbkbhlcccmaaDoor
