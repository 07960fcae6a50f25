import Derived.Test.YtnjlbkbhlcccmaaDoorBMeth
namespace Go.Proofs.YtnjlbkbhlcccmaaDoor
open Go.RowKit Go.Shelf
set_option linter.unusedVariables false
set_option linter.unusedSimpArgs false
set_option maxRecDepth 20000

/-- where the document's bitmap lies -/
structure RL where
  p : Nat
  b : Nat
def boolRow (B n : Nat) : Array Value := ((List.range n).map fun i => Value.bool (B.testBit i)).toArray
theorem boolRow_size (B n : Nat) : (boolRow B n).size = n := by simp [boolRow]
theorem boolRow_get {B n i : Nat} (h : i < n) : (boolRow B n)[i]? = some (.bool (B.testBit i)) := by simp [boolRow, h]
theorem boolRow_set {B B' n k : Nat} {x : Bool} (hk : k < n) (h1 : B'.testBit k = x) (h2 : ∀ i, i < n → i ≠ k → B'.testBit i = B.testBit i) : (boolRow B n).setIfInBounds k (.bool x) = boolRow B' n := by
  apply Array.ext_getElem?
  intro i
  by_cases hi : i < n
  · by_cases e : i = k
    · subst e
      rw [Array.getElem?_setIfInBounds_self_of_lt (by rw [boolRow_size]; exact hi), boolRow_get hi, h1]
    · rw [Array.getElem?_setIfInBounds_ne (by omega), boolRow_get hi, boolRow_get hi, h2 i hi e]
  · rw [Array.getElem?_eq_none (by simp [boolRow_size]; omega), Array.getElem?_eq_none (by simp [boolRow_size]; omega)]
structure RRep (w : World) (R : RL) (n B : Nat) : Prop where
  n1 : 1 ≤ n
  n2 : n ≤ 65536
  hB : B < 2 ^ n
  hp : w.heap[R.p]? = some (.cells #[.slice (some ⟨R.b, 0, none⟩) n n] 70 (0, 0))
  hb : w.heap[R.b]? = some (.cells (boolRow B n) 4 (0, 0))
def PR (R : RL) : Value := .pointer (some ⟨R.p, 0, none⟩)
def RL.U (R : RL) (b : Nat) : Prop := b = R.p ∨ b = R.b
theorem RRep.p_b {w : World} {R : RL} {n B : Nat} (h : RRep w R n B) : R.p ≠ R.b := fun e => by have := h.hp; rw [e, h.hb] at this; simp at this
theorem RRep.kept {w w' : World} {R : RL} {n B : Nat} (h : RRep w R n B) (hk : ∀ b, R.U b → w'.heap[b]? = w.heap[b]?) : RRep w' R n B :=
  ⟨h.n1, h.n2, h.hB, (hk _ (.inl rfl)).trans h.hp, (hk _ (.inr rfl)).trans h.hb⟩
theorem RRep.uLt {w : World} {R : RL} {n B : Nat} (h : RRep w R n B) : ∀ b, R.U b → b < w.heap.size := by
  rintro b (rfl | rfl)
  · exact (Array.getElem?_eq_some_iff.1 h.hp).1
  · exact (Array.getElem?_eq_some_iff.1 h.hb).1
theorem RRep.below {w w' : World} {R : RL} {n B : Nat} (h : RRep w R n B) (hb : Below w.heap.size w w') : RRep w' R n B := h.kept fun b hu => hb.block b (h.uLt b hu)
theorem RRep.chg {U : Nat → Prop} {w w' : World} {R : RL} {n B : Nat} (h : RRep w R n B) (hc : Chg U w w') (hu : ∀ b, R.U b → ¬ U b) : RRep w' R n B := h.kept fun b hb => hc.keep b (h.uLt b hb) (hu b hb)
theorem RRep.c0 {w : World} {R : RL} {n B : Nat} (h : RRep w R n B) : w.cell? ⟨R.p, 0, none⟩ = some (.slice (some ⟨R.b, 0, none⟩) n n) := cell_of_row _ _ _ _ _ _ h.hp
theorem RRep.cb {w : World} {R : RL} {n B : Nat} (h : RRep w R n B) {i : Nat} (hi : i < n) : w.cell? ⟨R.b, i, none⟩ = some (.bool (B.testBit i)) := by
  rw [cell_of_row _ _ _ _ _ _ h.hb, boolRow_get hi]
theorem RRep.fb {w : World} {R : RL} {n B : Nat} (h : RRep w R n B) (i : Nat) : w.frozen? ⟨R.b, i, none⟩ = false := frozen_of_row _ _ _ _ 4 h.hb
/-- one bit is written -/
theorem RRep.set {w : World} {R : RL} {n B B' i : Nat} {x : Bool} (h : RRep w R n B) (hi : i < n) (h1 : B'.testBit i = x) (h2 : ∀ j, j < n → j ≠ i → B'.testBit j = B.testBit j) (h3 : B' < 2 ^ n) :
    RRep (w.setCell ⟨R.b, i, none⟩ (.bool x)) R n B' ∧ Chg R.U w (w.setCell ⟨R.b, i, none⟩ (.bool x)) ∧ (w.setCell ⟨R.b, i, none⟩ (.bool x)).heap.size = w.heap.size := by
  have hs : (w.setCell ⟨R.b, i, none⟩ (.bool x)).heap.size = w.heap.size := by simp [World.setCell]
  refine ⟨⟨h.n1, h.n2, h3, ?_, ?_⟩, ⟨rfl, rfl, rfl, Nat.le_of_eq hs.symm, fun b _ hu => Go.heap_setCell_other _ _ _ _ (fun e => hu (.inr e))⟩, hs⟩
  · rw [Go.heap_setCell_other _ _ _ _ h.p_b]; exact h.hp
  · rw [Go.heap_setCell_same w R.b i _ 4 _ h.hb, boolRow_set hi h1 h2]

theorem info_bool : (Tryd.prog.info? 4).map (fun i => (i.zero, i.size, i.bytes)) = some (some (.bool false), 1, 1) := by kernel_rfl
theorem made_bools (n : Nat) : madeCells (Value.bool false).cells (n * 1) = boolRow 0 n := by
  apply Array.ext_getElem?
  intro i
  by_cases h : i < n
  · rw [boolRow_get h]
    simp [madeCells, Value.cells, h, Nat.mod_one]
  · rw [Array.getElem?_eq_none (by rw [size_madeCells]; omega), Array.getElem?_eq_none (by simp [boolRow_size]; omega)]
theorem run_bools (n : Nat) (hn : n ≤ 65536) (w : World) :
    (Instr.makeSlice 67 (.int .i64 (n : Int)) (.int .i64 (n : Int))).run Tryd.prog w = .ok (.slice (some ⟨w.heap.size, 0, none⟩) n n) (w.alloc (.cells (boolRow 0 n) 4)) := by
  obtain ⟨i0, hi, hz0, hz1, hz2⟩ := info_parts info_bool
  have hr := run_make (P := Tryd.prog) w 67 4 i0 (.bool false) Tryd.underlying67 hi hz0 .i64 .i64 (n : Int) (n : Int) (by omega) (Int.le_refl _) (by rw [hz2]; omega) (by omega)
  simp only [Int.toNat_natCast] at hr
  rw [hz1, made_bools n] at hr
  exact hr

def RNewAt (w w' : World) (R : RL) (n B : Nat) : Prop := RRep w' R n B ∧ Below w.heap.size w w' ∧ ∀ b, R.U b → w.heap.size ≤ b
theorem rep_new {w w' : World} {n B : Nat} {g : Nat} (hb : Below w.heap.size w w') (hg : w.heap.size ≤ g) (h1 : 1 ≤ n) (h2 : n ≤ 65536) (hB : B < 2 ^ n) (hr : w'.heap[g]? = some (.cells (boolRow B n) 4 (0, 0))) :
    RNewAt w (w'.alloc (.cells #[.slice (some ⟨g, 0, none⟩) n n] 70)) ⟨w'.heap.size, g⟩ n B := by
  refine ⟨⟨h1, h2, hB, Go.heap_alloc_new _ _, ?_⟩, hb.alloc hb.size _, ?_⟩
  · show (w'.alloc _).heap[g]? = _
    rw [Below.heap_alloc _ _ _ (Array.getElem?_eq_some_iff.1 hr).1]; exact hr
  · rintro b (rfl | rfl)
    · exact hb.size
    · exact hg
theorem rNew_no (w : World) (n : Int) (h : ¬ (1 ≤ n ∧ n ≤ 65536)) : Calls Tryd.prog 15 #[.int .i64 n] w fun e w' => e = .returned (.tuple #[.pointer none, .int .i64 1]) ∧ w' = w := by
  by_cases h1 : n < 1
  · go_enter Tryd.func15, Tryd.ntmps15
    go_wp2
    go_ret2
    exact ⟨rfl, rfl⟩
  · have h2 : 65536 < n := by omega
    go_enter Tryd.func15, Tryd.ntmps15
    go_wp2
    go_ret2
    exact ⟨rfl, rfl⟩
theorem rNew_any (w : World) (n : Nat) (h1 : 1 ≤ n) (h2 : n ≤ 65536) : Calls Tryd.prog 15 #[.int .i64 (n : Int)] w fun e w' => ∃ R, e = .returned (.tuple #[PR R, .int .i64 0]) ∧ RNewAt w w' R n 0 := by
  have hmk := run_bools n h2
  have HF : Hid (RNewAt w ((w.alloc (.cells (boolRow 0 n) 4)).alloc (.cells #[.slice (some ⟨w.heap.size, 0, none⟩) n n] 70)) ⟨w.heap.size + 1, w.heap.size⟩ n 0) := hide (by
    have := rep_new (w := w) (w' := w.alloc (.cells (boolRow 0 n) 4)) (g := w.heap.size) ((Below.refl _ _).alloc (Nat.le_refl _) _) (Nat.le_refl _) h1 h2 (Nat.two_pow_pos _) (Go.heap_alloc_new w _)
    rw [World.size_alloc] at this
    exact this)
  generalize boolRow 0 n = Z at *
  unfold PR
  go_enter Tryd.func15, Tryd.ntmps15
  go_wp2
  go_ret2
  exact ⟨⟨w.heap.size + 1, w.heap.size⟩, rfl, HF.out⟩

theorem Length_any (w : World) (n : Nat) (hn : n ≤ 1000000) : Calls Tryd.prog 57 #[.int .i64 (n : Int)] w fun e w' => e = .returned (.int .i64 ((nW n : Nat) : Int)) ∧ w' = w := by
  go_enter Tryd.func57, Tryd.ntmps57
  go_wp2
  go_ret
  exact ⟨ret_int (by unfold nW; omega), rfl⟩
theorem Listed_any {w : World} {v : Value} {l : List Nat} {n : Nat} (h1 : 1 ≤ n) (h2 : n ≤ 65536) (h : WSl w v l) :
    Calls Tryd.prog 26 #[.int .i64 (n : Int), v] w fun e w' => e = .returned (.int .i64 ((cwErr n l : Nat) : Int)) ∧ w' = w := by
  have hw := Length_any w n (by omega)
  have HW := hide hw
  clear hw
  have hg := h.getLt (l.length - 1)
  obtain ⟨a, cap, rfl, q1, q2, q3, q4, q5⟩ := h
  unfold maxLen at q2
  unfold cwErr
  by_cases e1 : l.length = nW n
  · rw [if_neg (by omega)]
    have hp : 0 < l.length := by rw [e1]; unfold nW; omega
    obtain ⟨b, off, rfl, hc⟩ := q5 hp
    have hcl := hc (l.length - 1) (by omega)
    have hne : ((l.length : Int) != ((nW n : Nat) : Int)) = false := by rw [e1]; simp
    have hs : ((l.getD (l.length - 1) 0 : Nat) : Int) / 2 ^ (n % 64) = ((l.getD (l.length - 1) 0 / 2 ^ (n % 64) : Nat) : Int) := by rw [Int.natCast_ediv]; simp
    have ho : (((l.length : Int) - 1).toNat) = l.length - 1 := by omega
    have hll : ((l.length - 1 : Nat) : Int) = (l.length : Int) - 1 := by omega
    clear hc q4 q5
    by_cases e2 : n % 64 = 0
    · rw [if_neg (by omega)]
      have hm : (((n : Int) % 64) != 0) = false := by simp; omega
      clear e1 hcl hs hg hll
      generalize l.length = len at *
      generalize nW n = m1 at *
      go_enter Tryd.func26, Tryd.ntmps26
      go_wp2_with (go_at_call 57; refine HW.out.mono ?_; rintro e w' ⟨rfl, rfl⟩)
      go_ret
      exact ⟨rfl, rfl⟩
    · have hm : (((n : Int) % 64) != 0) = true := by simp; omega
      clear e1
      generalize l.getD (l.length - 1) 0 = x at *
      by_cases e3 : x / 2 ^ (n % 64) = 0
      · rw [if_neg (by simp [e3])]
        rw [e3] at hs
        simp only [Int.natCast_zero] at hs
        clear e2 e3
        generalize l.length = len at *
        generalize nW n = m1 at *
        go_enter Tryd.func26, Tryd.ntmps26
        go_wp2_with (go_at_call 57; refine HW.out.mono ?_; rintro e w' ⟨rfl, rfl⟩)
        go_ret
        exact ⟨rfl, rfl⟩
      · rw [if_pos ⟨e2, e3⟩]
        have hx : ((((x / 2 ^ (n % 64) : Nat)) : Int) != 0) = true := by simp; omega
        clear e2 e3
        generalize x / 2 ^ (n % 64) = y at *
        generalize l.length = len at *
        generalize nW n = m1 at *
        go_enter Tryd.func26, Tryd.ntmps26
        go_wp2_with (go_at_call 57; refine HW.out.mono ?_; rintro e w' ⟨rfl, rfl⟩)
        go_ret
        exact ⟨rfl, rfl⟩
  · rw [if_pos e1]
    have hne : ((l.length : Int) != ((nW n : Nat) : Int)) = true := by simp; omega
    clear e1 q4 q5 hg
    generalize l.length = len at *
    generalize nW n = m1 at *
    go_enter Tryd.func26, Tryd.ntmps26
    go_wp2_with (go_at_call 57; refine HW.out.mono ?_; rintro e w' ⟨rfl, rfl⟩)
    go_ret
    exact ⟨rfl, rfl⟩

end Go.Proofs.YtnjlbkbhlcccmaaDoor
