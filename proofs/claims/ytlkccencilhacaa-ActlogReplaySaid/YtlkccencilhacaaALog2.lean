import Derived.Test.YtlkccencilhacaaALog1
namespace Go.Proofs.Ytlkccencilhacaa
open Go.RowKit Go.Sort
set_option linter.unusedVariables false
set_option linter.unusedSimpArgs false
set_option maxRecDepth 20000

theorem vext_any (w : World) (x : Int) : Calls Try.prog 35 #[.int .i64 x] w fun e w' => e = .returned (.bool (decide (1 ≤ x ∧ x ≤ 1024))) ∧ w' = w := by
  by_cases h0 : 1 ≤ x
  · by_cases h1 : x ≤ 1024
    · rw [decide_eq_true (And.intro h0 h1)]
      go_enter Try.func35, Try.ntmps35
      go_wp2_with fail
      go_ret
      exact ⟨by simp, rfl⟩
    · rw [decide_eq_false (fun e => h1 e.2)]
      have b1 : (x ≤ 1024) = False := by simp; omega
      go_enter Try.func35, Try.ntmps35
      go_wp2_with fail
      go_ret
      exact ⟨by simp, rfl⟩
  · rw [decide_eq_false (fun e => h0 e.1)]
    have b1 : (1 ≤ x) = False := by simp; omega
    go_enter Try.func35, Try.ntmps35
    go_wp2_with fail
    go_ret
    exact ⟨by simp, rfl⟩
/-- the sizes that a record may have -/
theorem vsize_yes (w : World) (x : Int) (h : x = 128 ∨ x = 256 ∨ x = 512 ∨ x = 1024) : Calls Try.prog 54 #[.int .i64 x] w fun e w' => e = .returned (.bool true) ∧ w' = w := by
  rcases h with rfl | rfl | rfl | rfl
  all_goals
    go_enter Try.func54, Try.ntmps54
    go_wp2_with fail
    go_ret
    exact ⟨by first | (simp; done) | (simp; rfl) | (simp; decide), rfl⟩
set_option maxHeartbeats 1000000 in
theorem logNew_any (w : World) (n ext size first : Nat) (h1 : 1 ≤ n) (h2 : n ≤ 16) (h3 : 1 ≤ ext) (h4 : ext ≤ 1024) (h5 : size = 128 ∨ size = 256 ∨ size = 512 ∨ size = 1024) :
    Calls Try.prog 29 #[.int .i64 (n : Int), .int .i64 (ext : Int), .int .i64 (size : Int), .int .u32 (first : Int)] w fun e w' => ∃ lp, w.heap.size ≤ lp ∧ e = .returned (.tuple #[.pointer (some ⟨lp, 0, none⟩), .int .i64 0]) ∧ LgR w' lp (w.heap.size + 1) w.heap.size (.slice none 0 0) (.slice none 0 0) (.slice none 0 0) ⟨n, [], [], [], []⟩ ext size first 0 ∧ Below w.heap.size w w' := by
  have HN := hide (newI_any w n h1 h2)
  have HV : Hid (∀ x, _) := hide fun (x : World) => vext_any x (ext : Int)
  rw [decide_eq_true (by omega)] at HV
  have HS : Hid (∀ x, _) := hide fun (x : World) => vsize_yes x (size : Int) (by omega)
  have HF : Hid (∀ w1, LRep w1 (w.heap.size + 1) w.heap.size (.slice none 0 0) (.slice none 0 0) (.slice none 0 0) ⟨n, [], [], [], []⟩ → Below w.heap.size w w1 → LgR (w1.alloc (.cells #[.pointer (some ⟨w.heap.size + 1, 0, none⟩), .int .i64 (ext : Int), .int .i64 (size : Int), .int .u32 (first : Int), .int .i64 0] 106)) w1.heap.size (w.heap.size + 1) w.heap.size (.slice none 0 0) (.slice none 0 0) (.slice none 0 0) ⟨n, [], [], [], []⟩ ext size first 0 ∧ Below w.heap.size w (w1.alloc (.cells #[.pointer (some ⟨w.heap.size + 1, 0, none⟩), .int .i64 (ext : Int), .int .i64 (size : Int), .int .u32 (first : Int), .int .i64 0] 106)) ∧ w.heap.size ≤ w1.heap.size) := hide fun w1 hl hb =>
    ⟨⟨Go.heap_alloc_new _ _, hl.below ((Below.refl _ _).alloc (Nat.le_refl _) _), fun e => by have := hl.lt _ e; omega⟩, hb.alloc hb.size _, hb.size⟩
  clear h1 h2 h3 h4 h5
  go_enter Try.func29, Try.ntmps29
  go_wp2_with (first
    | (go_at_call 53; refine HN.out.mono ?_; rintro e w1 ⟨rfl, g1, g2⟩; have HG := hide (HF.out _ g1 g2); clear g1 g2 HN HF)
    | (go_at_call 35; refine (HV.out _).mono ?_; rintro e w2 ⟨rfl, rfl⟩)
    | (go_at_call 54; refine (HS.out _).mono ?_; rintro e w2 ⟨rfl, rfl⟩))
  go_ret2
  exact ⟨_, HG.out.2.2, rfl, HG.out.1, HG.out.2.1⟩
theorem number_any {w : World} {lp p bm : Nat} {kv rv iv : Value} {S : LS} {ext size first written : Nat} (h : LgR w lp p bm kv rv iv S ext size first written) (hw : written ≤ 4611686018427387904) :
    Calls Try.prog 17 #[.pointer (some ⟨lp, 0, none⟩)] w fun e w' => e = .returned (.int .u32 (((first + written) % 4294967296 : Nat) : Int)) ∧ Qt w w' := by
  have c3 : w.cell? ⟨lp, 3, none⟩ = some (.int .u32 (first : Int)) := h.c 3
  have c4 : w.cell? ⟨lp, 4, none⟩ = some (.int .i64 (written : Int)) := h.c 4
  clear h
  go_enter Try.func17, Try.ntmps17
  go_wp2_with fail
  go_quiet (fail)
  go_wp2_with fail
  go_ret
  refine ⟨?_, (Qt.refl w).drewN _⟩
  have e : (((first + written) % 4294967296 : Nat) : Int) = ((first : Int) + (written : Int) % 4294967296) % 4294967296 := by omega
  rw [e]
  rfl
def ints (l : List Int) : Array Value := (l.map iV).toArray
theorem made_ints (n : Nat) : madeCells (Value.int .i64 0).cells (n * 1) = ints (List.replicate n 0) := by
  apply Array.ext_getElem?
  intro i
  by_cases h : i < n
  · simp [madeCells, Value.cells, h, Nat.mod_one, ints, iV]
  · rw [Array.getElem?_eq_none (by rw [size_madeCells]; omega), Array.getElem?_eq_none (by simp [ints]; omega)]
theorem run_ints (n : Nat) (hn : n ≤ 65536) (w : World) :
    (Instr.makeSlice 25 (.int .i64 (n : Int)) (.int .i64 (n : Int))).run Try.prog w = .ok (.slice (some ⟨w.heap.size, 0, none⟩) n n) (w.alloc (.cells (ints (List.replicate n 0)) 3)) := by
  obtain ⟨i0, hi, hz0, hz1, hz2⟩ := info_parts info_int
  have hr := run_make (P := Try.prog) w 25 3 i0 (.int .i64 0) Try.underlying25 hi hz0 .i64 .i64 (n : Int) (n : Int) (by omega) (Int.le_refl _) (by rw [hz2]; omega) (by omega)
  simp only [Int.toNat_natCast] at hr
  rw [hz1, made_ints n] at hr
  exact hr
/-- a row of free slots, its first i laid -/
structure FrR (w wr : World) (n i : Nat) : Prop where
  row : ∃ cs : Array Value, wr.heap[w.heap.size]? = some (.cells cs 3 (0, 0)) ∧ cs.size = n ∧ (∀ j, j < i → cs[j]? = some (.int .i64 (-1))) ∧ ∀ j, j < n → ∃ z : Int, cs[j]? = some (.int .i64 z)
  be : Below w.heap.size w wr
theorem FrR.start (w : World) (n : Nat) : FrR w (w.alloc (.cells (ints (List.replicate n 0)) 3)) n 0 :=
  ⟨⟨_, Go.heap_alloc_new _ _, by simp [ints], fun j hj => by omega, fun j hj => ⟨0, by simp [ints, iV, hj]⟩⟩, (Below.refl _ _).alloc (Nat.le_refl _) _⟩
theorem FrR.cell {w wr : World} {n i j : Nat} (h : FrR w wr n i) (hj : j < n) : (∃ z : Int, wr.cell? ⟨w.heap.size, j, none⟩ = some (.int .i64 z)) ∧ wr.frozen? ⟨w.heap.size, j, none⟩ = false := by
  obtain ⟨cs, h1, h2, h3, h4⟩ := h.row
  obtain ⟨z, hz⟩ := h4 j hj
  exact ⟨⟨z, (cell_of_row _ _ _ _ _ _ h1).trans hz⟩, frozen_of_row _ _ _ _ 3 h1⟩
theorem FrR.step {w wr : World} {n i : Nat} (h : FrR w wr n i) (hi : i < n) : FrR w (wr.setCell ⟨w.heap.size, i, none⟩ (.int .i64 (-1))) n (i + 1) := by
  obtain ⟨cs, h1, h2, h3, h4⟩ := h.row
  refine ⟨⟨cs.setIfInBounds i (.int .i64 (-1)), Go.heap_setCell_same wr _ i _ 3 _ h1, by simpa using h2, fun j hj => ?_, fun j hj => ?_⟩, ⟨h.be.os, h.be.tape, h.be.output, by rw [World.size_setCell]; exact h.be.size, fun b hb => ?_⟩⟩
  · by_cases e : j = i
    · subst e; rw [Array.getElem?_setIfInBounds_self_of_lt (by omega)]
    · rw [Array.getElem?_setIfInBounds_ne (fun x => e x.symm)]; exact h3 j (by omega)
  · by_cases e : j = i
    · subst e; exact ⟨-1, by rw [Array.getElem?_setIfInBounds_self_of_lt (by omega)]⟩
    · rw [Array.getElem?_setIfInBounds_ne (fun x => e x.symm)]; exact h4 j hj
  · rw [Go.heap_setCell_other _ _ _ _ (show b ≠ w.heap.size by omega)]; exact h.be.block b hb
theorem FrR.fin {w wr : World} {n : Nat} (h : FrR w wr n n) : wr.heap[w.heap.size]? = some (.cells (ints (List.replicate n (-1))) 3 (0, 0)) := by
  obtain ⟨cs, h1, h2, h3, h4⟩ := h.row
  have : cs = ints (List.replicate n (-1)) := by
    apply Array.ext_getElem?
    intro j
    by_cases hj : j < n
    · rw [h3 j hj]; simp [ints, iV, hj]
    · rw [Array.getElem?_eq_none (by omega), Array.getElem?_eq_none (by simp [ints]; omega)]
  rw [← this]; exact h1
set_option maxHeartbeats 1000000 in
theorem freeRow_any (w : World) (n : Nat) (h1 : 1 ≤ n) (h2 : n ≤ 16) : Calls Try.prog 38 #[.int .i64 (n : Int)] w fun e w' => e = .returned (.slice (some ⟨w.heap.size, 0, none⟩) n n) ∧ w'.heap[w.heap.size]? = some (.cells (ints (List.replicate n (-1))) 3 (0, 0)) ∧ Below w.heap.size w w' := by
  have hmk := fun W : World => run_ints n (by omega) W
  have HT0 := hide (FrR.start w n)
  go_enter Try.func38, Try.ntmps38
  go_wp2_with fail
  clear hmk
  generalize hg : w.heap.size = g
  have HG := hide hg
  clear hg
  go_loopw [9] (fun x wr => ∃ i : Nat, i ≤ n ∧ x = .int .i64 (i : Int) ∧ FrR w wr n i) (fun x _ => n - (intOf x).toNat)
  case atStart => exact ⟨0, Nat.zero_le _, rfl, HT0.out⟩
  case round =>
    clear HT0
    obtain ⟨i, hin, rfl, hfr⟩ := hrel
    by_cases hlt : i < n
    · obtain ⟨⟨z, c1⟩, c2⟩ := hfr.cell hlt
      rw [HG.out] at c1 c2
      have HN := hide (hfr.step hlt)
      rw [HG.out] at HN
      clear hfr
      go_wp2_with fail
      go_roundw
      case rel => exact ⟨i + 1, by omega, by go_num, HN.out⟩
      case measure => simp [intOf]; omega
    · have ei : i = n := by omega
      subst ei
      have HF := hide (And.intro hfr.fin hfr.be)
      rw [HG.out] at HF
      clear hfr
      go_wp2_with fail
      go_ret
      have hg := HG.out
      subst hg
      exact ⟨rfl, HF.out.1, HF.out.2⟩
end Go.Proofs.Ytlkccencilhacaa
