import Derived.Test.YtcjilmafdpnfeaaDoorWSpan
namespace Go.Proofs.YtcjilmafdpnfeaaDoor
open Go.RowKit
set_option linter.unusedVariables false
set_option linter.unusedSimpArgs false
set_option maxRecDepth 20000

/-- place, least and greatest of each number -/
def bndL : List (Nat × Nat × Nat) := [(0, 0, 4294967295), (3, 0, 4294967295), (1, 1, 4096), (3, 0, 0), (4, 0, 4294967295), (3, 0, 4096), (4, 0, 31), (4, 0, 0), (1, 0, 63), (3, 1, 8), (0, 1, 2147483647), (1, 0, 4095), (2, 1, 4294967295), (3, 1, 64), (4, 1, 255), (4, 0, 255), (4, 0, 1), (3, 0, 4294967295)]
def bnd (n : Nat) : Nat × Nat × Nat := bndL.getD n (0, 0, 0)
theorem bnd_lt : ∀ n, n < 18 → (bnd n).1 < 5 ∧ (bnd n).2.1 < 4294967296 ∧ (bnd n).2.2 < 4294967296 := by decide
/-- the table of bounds in memory -/
def BTab (w : World) : Prop := ∀ n, n < 18 → w.cell? ⟨0, n * 3, none⟩ = some (.int .i64 ((bnd n).1 : Nat)) ∧ w.cell? ⟨0, n * 3 + 1, none⟩ = some (.int .u64 ((bnd n).2.1 : Nat)) ∧ w.cell? ⟨0, n * 3 + 2, none⟩ = some (.int .u64 ((bnd n).2.2 : Nat))
theorem BTab.below {w w' : World} (h : BTab w) (hb : Below w.heap.size w w') : BTab w' := fun n hn => by
  obtain ⟨h0, h1, h2⟩ := h n hn
  exact ⟨(hb.cell (p := ⟨0, n * 3, none⟩) (World.block_lt_of_cell? w _ h0)).trans h0, (hb.cell (p := ⟨0, n * 3 + 1, none⟩) (World.block_lt_of_cell? w _ h1)).trans h1, (hb.cell (p := ⟨0, n * 3 + 2, none⟩) (World.block_lt_of_cell? w _ h2)).trans h2⟩
theorem SpL.one {w : World} (lo hi : Nat) (h1 : lo < 18446744073709551616) (h2 : hi < 18446744073709551616) (t : TypeId) : SpL (w.alloc (.cells #[.int .u64 (lo : Int), .int .u64 (hi : Int)] t)) (.slice (some ⟨w.heap.size, 0, none⟩) 1 1) [(lo, hi)] := by
  refine ⟨_, 0, 1, rfl, Nat.le_refl _, by unfold maxLen; omega, by simpa using ⟨h1, h2⟩, fun i hi' => ?_⟩
  have : i = 0 := by simp at hi'; exact hi'
  subst this
  rw [cell_of_row _ _ _ _ _ _ (Go.heap_alloc_new w _), cell_of_row _ _ _ _ _ _ (Go.heap_alloc_new w _)]
  exact ⟨rfl, rfl⟩
theorem bel_drewN {B : Nat} {a w : World} (h : Below B a w) (n : Nat) : Below B a (w.drewN n) := h.trans ⟨rfl, rfl, rfl, Nat.le_refl _, fun _ _ => rfl⟩
def aheadV (a b c d e : Nat) : Value := .agg #[.int .u32 (a : Int), .int .u32 (b : Int), .int .u32 (c : Int), .int .u32 (d : Int), .int .u32 (e : Int)]

set_option maxHeartbeats 1000000 in
theorem may_plain (w : World) (n a b c d e : Nat) (hT : BTab w) (hn : n < 18) (h1 : n ≠ 1) (h3 : n ≠ 3) (h7 : n ≠ 7) (h9 : n ≠ 9) :
    Calls Tryd.prog 20 #[.int .i64 (n : Int), aheadV a b c d e] w fun e w' => ∃ v, e = .returned v ∧ SpL w' v [((bnd n).2.1, (bnd n).2.2)] ∧ Below w.heap.size w w' := by
  unfold aheadV
  have HW := hide ((Below.refl w.heap.size w).alloc (Nat.le_refl _) (.cells #[.int .u32 (a : Int), .int .u32 (b : Int), .int .u32 (c : Int), .int .u32 (d : Int), .int .u32 (e : Int)] 47))
  obtain ⟨c0, c1, c2⟩ := hT.below HW.out n hn
  obtain ⟨_, l1, l2⟩ := bnd_lt n hn
  generalize (bnd n).2.1 = lo at *
  generalize (bnd n).2.2 = hi at *
  have b1 : ((n : Int) == 1) = false := by simp only [beq_eq_false_iff_ne]; omega
  have b3 : ((n : Int) == 3) = false := by simp only [beq_eq_false_iff_ne]; omega
  have b7 : ((n : Int) == 7) = false := by simp only [beq_eq_false_iff_ne]; omega
  have b9 : ((n : Int) == 9) = false := by simp only [beq_eq_false_iff_ne]; omega
  clear hT
  go_enter Tryd.func20, Tryd.ntmps20
  have i1 : (n : Int) < 18 := by omega
  go_wp2_with fail
  go_quiet (fail)
  go_wp2_with fail
  go_ret
  exact ⟨_, rfl, by have := SpL.one (w := (w.alloc (.cells #[.int .u32 (a : Int), .int .u32 (b : Int), .int .u32 (c : Int), .int .u32 (d : Int), .int .u32 (e : Int)] 47)).drewN nq) lo hi (by omega) (by omega) 44; simpa using this, (bel_drewN HW.out nq).alloc (by show w.heap.size ≤ (w.alloc _).heap.size; simp) _⟩

theorem SpL.lit {w : World} (l : List (Nat × Nat)) (t : TypeId) (hp : 0 < l.length) (hl : l.length ≤ 4) (hb : ∀ q ∈ l, q.1 < 18446744073709551616 ∧ q.2 < 18446744073709551616) (cs : Array Value) (hcs : ∀ i, i < l.length → cs[2 * i]? = some (.int .u64 ((l.getD i (0, 0)).1 : Nat)) ∧ cs[2 * i + 1]? = some (.int .u64 ((l.getD i (0, 0)).2 : Nat))) : SpL (w.alloc (.cells cs t)) (.slice (some ⟨w.heap.size, 0, none⟩) l.length l.length) l := by
  refine ⟨_, 0, l.length, rfl, Nat.le_refl _, by unfold maxLen; omega, hb, fun i hi => ?_⟩
  rw [cell_of_row _ _ _ _ _ _ (Go.heap_alloc_new w _), cell_of_row _ _ _ _ _ _ (Go.heap_alloc_new w _), Nat.zero_add]
  exact hcs i hi
/-- what a number can be, behind the first two of those ahead of it -/
def mayL (n a b : Nat) : List (Nat × Nat) :=
  if n = 1 then [(a, 4294967295)] else if n = 3 then [(128, 128), (256, 256), (512, 512), (1024, 1024)] else if n = 7 then [(0, 1), (4, 5), (8, 9)]
  else if n = 9 then [(1, if b ≤ 64 then min 8 (64 - b) else 8)] else [((bnd n).2.1, (bnd n).2.2)]

set_option maxHeartbeats 1000000 in
theorem may_1 (w : World) (a b c d e : Nat) (hT : BTab w) (ha : a < 4294967296) :
    Calls Tryd.prog 20 #[.int .i64 1, aheadV a b c d e] w fun e w' => ∃ v, e = .returned v ∧ SpL w' v [(a, 4294967295)] ∧ Below w.heap.size w w' := by
  unfold aheadV
  have HW := hide ((Below.refl w.heap.size w).alloc (Nat.le_refl _) (.cells #[.int .u32 (a : Int), .int .u32 (b : Int), .int .u32 (c : Int), .int .u32 (d : Int), .int .u32 (e : Int)] 47))
  obtain ⟨c0, c1, c2⟩ := hT.below HW.out 1 (by decide)
  simp only [show bnd 1 = (3, 0, 4294967295) from rfl, Nat.one_mul, Nat.reduceAdd] at c0 c1 c2
  clear hT
  go_enter Tryd.func20, Tryd.ntmps20
  go_wp2_with fail
  go_quiet (fail)
  go_wp2_with fail
  go_ret
  exact ⟨_, rfl, by have := SpL.one (w := ((w.alloc (.cells #[.int .u32 (a : Int), .int .u32 (b : Int), .int .u32 (c : Int), .int .u32 (d : Int), .int .u32 (e : Int)] 47)).drewN nq)) a 4294967295 (by omega) (by omega) 44; simpa using this, (bel_drewN HW.out nq).alloc (by show w.heap.size ≤ (w.alloc _).heap.size; simp) _⟩
set_option maxHeartbeats 1000000 in
theorem may_3 (w : World) (a b c d e : Nat) (hT : BTab w) :
    Calls Tryd.prog 20 #[.int .i64 3, aheadV a b c d e] w fun e w' => ∃ v, e = .returned v ∧ SpL w' v [(128, 128), (256, 256), (512, 512), (1024, 1024)] ∧ Below w.heap.size w w' := by
  unfold aheadV
  have HW := hide ((Below.refl w.heap.size w).alloc (Nat.le_refl _) (.cells #[.int .u32 (a : Int), .int .u32 (b : Int), .int .u32 (c : Int), .int .u32 (d : Int), .int .u32 (e : Int)] 47))
  obtain ⟨c0, c1, c2⟩ := hT.below HW.out 3 (by decide)
  simp only [show bnd 3 = (3, 0, 0) from rfl, Nat.reduceMul, Nat.reduceAdd] at c0 c1 c2
  clear hT
  go_enter Tryd.func20, Tryd.ntmps20
  go_wp2_with fail
  go_quiet (fail)
  go_wp2_with fail
  go_ret
  exact ⟨_, rfl, by have := SpL.lit (w := ((w.alloc (.cells #[.int .u32 (a : Int), .int .u32 (b : Int), .int .u32 (c : Int), .int .u32 (d : Int), .int .u32 (e : Int)] 47)).drewN nq)) [(128, 128), (256, 256), (512, 512), (1024, 1024)] 44 (by decide) (by decide) (by decide) #[.int .u64 128, .int .u64 128, .int .u64 256, .int .u64 256, .int .u64 512, .int .u64 512, .int .u64 1024, .int .u64 1024] (by intro i hi; have hi : i < 4 := hi; rcases (show i = 0 ∨ i = 1 ∨ i = 2 ∨ i = 3 by omega) with rfl | rfl | rfl | rfl <;> exact ⟨rfl, rfl⟩); simpa using this, (bel_drewN HW.out nq).alloc (by show w.heap.size ≤ (w.alloc _).heap.size; simp) _⟩
set_option maxHeartbeats 1000000 in
theorem may_7 (w : World) (a b c d e : Nat) (hT : BTab w) :
    Calls Tryd.prog 20 #[.int .i64 7, aheadV a b c d e] w fun e w' => ∃ v, e = .returned v ∧ SpL w' v [(0, 1), (4, 5), (8, 9)] ∧ Below w.heap.size w w' := by
  unfold aheadV
  have HW := hide ((Below.refl w.heap.size w).alloc (Nat.le_refl _) (.cells #[.int .u32 (a : Int), .int .u32 (b : Int), .int .u32 (c : Int), .int .u32 (d : Int), .int .u32 (e : Int)] 47))
  obtain ⟨c0, c1, c2⟩ := hT.below HW.out 7 (by decide)
  simp only [show bnd 7 = (4, 0, 0) from rfl, Nat.reduceMul, Nat.reduceAdd] at c0 c1 c2
  clear hT
  go_enter Tryd.func20, Tryd.ntmps20
  go_wp2_with fail
  go_quiet (fail)
  go_wp2_with fail
  go_ret
  exact ⟨_, rfl, by have := SpL.lit (w := ((w.alloc (.cells #[.int .u32 (a : Int), .int .u32 (b : Int), .int .u32 (c : Int), .int .u32 (d : Int), .int .u32 (e : Int)] 47)).drewN nq)) [(0, 1), (4, 5), (8, 9)] 44 (by decide) (by decide) (by decide) #[.int .u64 0, .int .u64 1, .int .u64 4, .int .u64 5, .int .u64 8, .int .u64 9] (by intro i hi; have hi : i < 3 := hi; rcases (show i = 0 ∨ i = 1 ∨ i = 2 by omega) with rfl | rfl | rfl <;> exact ⟨rfl, rfl⟩); simpa using this, (bel_drewN HW.out nq).alloc (by show w.heap.size ≤ (w.alloc _).heap.size; simp) _⟩
set_option maxHeartbeats 1000000 in
theorem may_9 (w : World) (a b c d e : Nat) (hT : BTab w) (hb : b < 4294967296) :
    Calls Tryd.prog 20 #[.int .i64 9, aheadV a b c d e] w fun e w' => ∃ v, e = .returned v ∧ SpL w' v [(1, if b ≤ 64 then min 8 (64 - b) else 8)] ∧ Below w.heap.size w w' := by
  unfold aheadV
  have HW := hide ((Below.refl w.heap.size w).alloc (Nat.le_refl _) (.cells #[.int .u32 (a : Int), .int .u32 (b : Int), .int .u32 (c : Int), .int .u32 (d : Int), .int .u32 (e : Int)] 47))
  obtain ⟨c0, c1, c2⟩ := hT.below HW.out 9 (by decide)
  simp only [show bnd 9 = (3, 1, 8) from rfl, Nat.reduceMul, Nat.reduceAdd] at c0 c1 c2
  clear hT
  obtain ⟨m, hm, hm2⟩ : ∃ m : Nat, (if b ≤ 64 then min 8 (64 - b) else 8) = m ∧ m ≤ 8 := ⟨_, rfl, by split <;> omega⟩
  rw [hm]
  have hmin : min 8 (IntKind.u64.wrap (64 - (b : Int))) = (m : Int) := by
    have hw : IntKind.u64.wrap (64 - (b : Int)) = (64 - (b : Int)) % 18446744073709551616 := by simp [IntKind.wrap, IntKind.bits, IntKind.signed]
    rw [hw]
    by_cases h : b ≤ 64
    · rw [if_pos h] at hm
      omega
    · rw [if_neg h] at hm
      omega
  clear hm
  go_enter Tryd.func20, Tryd.ntmps20
  go_wp2_with fail
  go_quiet (fail)
  go_wp2_with fail
  go_ret
  exact ⟨_, rfl, by have := SpL.one (w := ((w.alloc (.cells #[.int .u32 (a : Int), .int .u32 (b : Int), .int .u32 (c : Int), .int .u32 (d : Int), .int .u32 (e : Int)] 47)).drewN nq)) 1 m (by omega) (by omega) 44; simpa using this, (bel_drewN HW.out nq).alloc (by show w.heap.size ≤ (w.alloc _).heap.size; simp) _⟩

/-- may, of any number -/
theorem may_any (w : World) (n a b c d e : Nat) (hT : BTab w) (hn : n < 18) (ha : a < 4294967296) (hb : b < 4294967296) :
    Calls Tryd.prog 20 #[.int .i64 (n : Int), aheadV a b c d e] w fun e w' => ∃ v, e = .returned v ∧ SpL w' v (mayL n a b) ∧ Below w.heap.size w w' := by
  by_cases h1 : n = 1
  · subst h1; exact may_1 w a b c d e hT ha
  · by_cases h3 : n = 3
    · subst h3; exact may_3 w a b c d e hT
    · by_cases h7 : n = 7
      · subst h7; exact may_7 w a b c d e hT
      · by_cases h9 : n = 9
        · subst h9; exact may_9 w a b c d e hT hb
        · have := may_plain w n a b c d e hT hn h1 h3 h7 h9
          unfold mayL
          rw [if_neg h1, if_neg h3, if_neg h7, if_neg h9]
          exact this
end Go.Proofs.YtcjilmafdpnfeaaDoor
