import Derived.Test.YtnjlbkbhlcccmaaDoorBPieces
import Derived.Shelf.Abstract
import Derived.Deep.RegionHeld
namespace Go.Proofs.YtnjlbkbhlcccmaaDoor
open Go.RowKit Go.Shelf
attribute [local go_sem] Oper.semAt_some
set_option linter.unusedVariables false
set_option linter.unusedSimpArgs false
set_option maxRecDepth 20000

theorem enters60 : ∀ args w, (callFunc 68 args).run Tryd.prog w = .ok (.enter 68 args) w := enters_of Tryd.func68 (by kernel_rfl) rfl

/-- between two rounds of a loop over pieces -/
structure RInv (U : Nat → Prop) (w W : World) (L : BL) (n B : Nat) (a e c : Nat) : Prop where
  rep : BRep W L n B
  b0 : W.heap[w.heap.size]? = some (.cells #[PB L] 33 (0, 0))
  b1 : W.heap[w.heap.size + 1]? = some (.cells #[.int .i64 (c : Int)] 3 (0, 0))
  b2 : W.heap[w.heap.size + 1 + 1]? = some (.cells #[.int .i64 (a : Int)] 3 (0, 0))
  b3 : W.heap[w.heap.size + 1 + 1 + 1]? = some (.cells #[.int .i64 (e : Int)] 3 (0, 0))
  chg : Chg U w W

theorem own_blk {W W' : World} {row : Option Nat} {N b : Nat} {cs : Array Value} {t : TypeId} {fz : Nat × Nat} (h : W.heap[b]? = some (.cells cs t fz)) (hg : W.grownBy W' row) (hr : ∀ r, row = some r → N ≤ r ∧ ∃ o : Obj, W.heap[r]? = some o ∧ o.isCells = false) : W'.heap[b]? = some (.cells cs t fz) := by
  rw [hg.block b (Array.getElem?_eq_some_iff.1 h).1 (fun e => by
    obtain ⟨_, o, ho, hc⟩ := hr b e.symm
    rw [h] at ho
    cases ho
    simp [Obj.isCells] at hc)]
  exact h
theorem own_rep {W W' : World} {row : Option Nat} {N : Nat} {L : BL} {n B : Nat} (h : BRep W L n B) (hg : W.grownBy W' row) (hr : ∀ r, row = some r → N ≤ r ∧ ∃ o : Obj, W.heap[r]? = some o ∧ o.isCells = false) : BRep W' L n B :=
  ⟨h.n1, h.n2, h.hB, own_blk h.hp hg hr, own_blk h.hlo hg hr, own_blk h.hhi hg hr, h.ne⟩
theorem own_chg {U : Nat → Prop} {w W W' : World} {row : Option Nat} {N : Nat} (h : Chg U w W) (hN : w.heap.size ≤ N) (hg : W.grownBy W' row) (hr : ∀ r, row = some r → N ≤ r ∧ ∃ o : Obj, W.heap[r]? = some o ∧ o.isCells = false) : Chg U w W' :=
  ⟨hg.os.trans h.os, hg.tape.trans h.tape, hg.output.trans h.output, Nat.le_trans h.size hg.size, fun b hb hu => (hg.block b (Nat.lt_of_lt_of_le hb h.size) (fun e => by have := (hr b e.symm).1; omega)).trans (h.keep b hb hu)⟩
theorem RInv.own {U : Nat → Prop} {w W W' : World} {row : Option Nat} {N : Nat} {L : BL} {n B a e c : Nat} (h : RInv U w W L n B a e c) (hN : w.heap.size ≤ N) (hg : W.grownBy W' row) (hr : ∀ r, row = some r → N ≤ r ∧ ∃ o : Obj, W.heap[r]? = some o ∧ o.isCells = false) : RInv U w W' L n B a e c :=
  ⟨own_rep h.rep hg hr, own_blk h.b0 hg hr, own_blk h.b1 hg hr, own_blk h.b2 hg hr, own_blk h.b3 hg hr, own_chg h.chg hN hg hr⟩

theorem wd_setR {B a s s' k : Nat} (h1 : a ≤ s) (h2 : s < s') (h3 : s' ≤ (s / 64 + 1) * 64) (hk : k = s / 64) :
    wd (setR B a s') k = wd (setR B a s) k ||| msk (s % 64) (s % 64 + (s' - s)) ∧ ∀ j, j ≠ k → wd (setR B a s') j = wd (setR B a s) j := by
  subst hk
  refine ⟨?_, fun j hj => ?_⟩
  · apply Nat.eq_of_testBit_eq
    intro i
    rw [Nat.testBit_or, testBit_wd, testBit_wd, testBit_msk, testBit_setR, testBit_setR]
    by_cases hi : i < 64
    · simp only [hi, decide_true, Bool.true_and]
      by_cases q1 : a ≤ 64 * (s / 64) + i
      · by_cases q2 : 64 * (s / 64) + i < s
        · have : 64 * (s / 64) + i < s' := by omega
          have q3 : ¬ s % 64 ≤ i := by omega
          simp [q1, q2, this, q3]
        · have q3 : s % 64 ≤ i := by omega
          by_cases q4 : 64 * (s / 64) + i < s'
          · have : i < s % 64 + (s' - s) := by omega
            simp [q1, q2, q3, q4, this]
          · have : ¬ i < s % 64 + (s' - s) := by omega
            simp [q1, q2, q3, q4, this]
      · have q3 : ¬ s % 64 ≤ i := by omega
        simp [q1, q3]
    · have : ¬ i < s % 64 + (s' - s) := by omega
      simp [hi, this]
  · apply Nat.eq_of_testBit_eq
    intro i
    rw [testBit_wd, testBit_wd, testBit_setR, testBit_setR]
    by_cases hi : i < 64
    · have : (64 * j + i < s') ↔ (64 * j + i < s) := by omega
      simp only [this]
    · simp [hi]
theorem cnt_setR {B a s s' : Nat} (h1 : a ≤ s) (h2 : s < s') (h3 : s' ≤ (s / 64 + 1) * 64) :
    cnt (wd (setR B a s) (s / 64) ^^^ (wd (setR B a s) (s / 64) ||| msk (s % 64) (s % 64 + (s' - s)))).testBit 64 = cnt (fun j => !B.testBit (s + j)) (s' - s) := by
  refine cnt_window (a := s % 64) (by omega) (fun j hj => ?_) (fun i hi ho => ?_)
  · rw [Nat.testBit_xor, Nat.testBit_or, testBit_wd, testBit_msk, testBit_setR]
    have e : 64 * (s / 64) + (s % 64 + j) = s + j := by omega
    have q1 : s % 64 + j < 64 := by omega
    have q2 : ¬ s + j < s := by omega
    have q3 : s % 64 ≤ s % 64 + j := by omega
    have q4 : s % 64 + j < s % 64 + (s' - s) := by omega
    rw [e]
    simp [q1, q2, q3, q4]
  · rw [Nat.testBit_xor, Nat.testBit_or, testBit_msk]
    have : (decide (s % 64 ≤ i) && decide (i < s % 64 + (s' - s))) = false := by
      rcases ho with ho | ho
      · have : ¬ s % 64 ≤ i := by omega
        simp [this]
      · have : ¬ i < s % 64 + (s' - s) := by omega
        simp [this]
    rw [this]; simp

theorem Chg.ofDrew {U : Nat → Prop} {W W' : World} (h : Chg U W.drew W') : Chg U W W' := ⟨h.os, h.tape, h.output, h.size, h.keep⟩
theorem wd_clrR {B a s s' k : Nat} (h1 : a ≤ s) (h2 : s < s') (h3 : s' ≤ (s / 64 + 1) * 64) (hk : k = s / 64) :
    wd (clrR B a s') k = wd (clrR B a s) k &&& (18446744073709551615 - msk (s % 64) (s % 64 + (s' - s))) ∧ ∀ j, j ≠ k → wd (clrR B a s') j = wd (clrR B a s) j := by
  subst hk
  have hml : msk (s % 64) (s % 64 + (s' - s)) < 2 ^ 64 := (mask_nat (by omega)).2
  refine ⟨?_, fun j hj => ?_⟩
  · apply Nat.eq_of_testBit_eq
    intro i
    rw [show 18446744073709551615 - msk (s % 64) (s % 64 + (s' - s)) = 2 ^ 64 - (msk (s % 64) (s % 64 + (s' - s)) + 1) by omega, Nat.testBit_and, Nat.testBit_two_pow_sub_succ hml, testBit_wd, testBit_wd, testBit_msk, testBit_clrR, testBit_clrR]
    by_cases hi : i < 64
    · simp only [hi, decide_true, Bool.true_and]
      by_cases q1 : a ≤ 64 * (s / 64) + i
      · by_cases q2 : 64 * (s / 64) + i < s
        · have : 64 * (s / 64) + i < s' := by omega
          simp [q1, q2, this]
        · have q3 : s % 64 ≤ i := by omega
          by_cases q4 : 64 * (s / 64) + i < s'
          · have : i < s % 64 + (s' - s) := by omega
            simp [q1, q2, q3, q4, this]
          · have : ¬ i < s % 64 + (s' - s) := by omega
            simp [q1, q2, q3, q4, this]
      · have q3 : ¬ s % 64 ≤ i := by omega
        simp [q1, q3]
    · simp [hi]
  · apply Nat.eq_of_testBit_eq
    intro i
    rw [testBit_wd, testBit_wd, testBit_clrR, testBit_clrR]
    by_cases hi : i < 64
    · have : (64 * j + i < s') ↔ (64 * j + i < s) := by omega
      simp only [this]
    · simp [hi]
theorem win_false {i s s' : Nat} (ho : i < s % 64 ∨ s % 64 + (s' - s) ≤ i) : (decide (s % 64 ≤ i) && decide (i < s % 64 + (s' - s))) = false := by
  rcases ho with ho | ho
  · have : ¬ s % 64 ≤ i := by omega
    simp [this]
  · have : ¬ i < s % 64 + (s' - s) := by omega
    simp [this]
theorem cnt_clrR {B a s s' : Nat} (h1 : a ≤ s) (h2 : s < s') (h3 : s' ≤ (s / 64 + 1) * 64) :
    cnt (wd (clrR B a s) (s / 64) ^^^ (wd (clrR B a s) (s / 64) &&& (18446744073709551615 - msk (s % 64) (s % 64 + (s' - s))))).testBit 64 = cnt (fun j => B.testBit (s + j)) (s' - s) := by
  have hml : msk (s % 64) (s % 64 + (s' - s)) < 2 ^ 64 := (mask_nat (by omega)).2
  rw [show 18446744073709551615 - msk (s % 64) (s % 64 + (s' - s)) = 2 ^ 64 - (msk (s % 64) (s % 64 + (s' - s)) + 1) by omega]
  refine cnt_window (a := s % 64) (by omega) (fun j hj => ?_) (fun i hi ho => ?_)
  · rw [Nat.testBit_xor, Nat.testBit_and, Nat.testBit_two_pow_sub_succ hml, testBit_wd, testBit_msk, testBit_clrR]
    have e : 64 * (s / 64) + (s % 64 + j) = s + j := by omega
    have q1 : s % 64 + j < 64 := by omega
    have q2 : ¬ s + j < s := by omega
    have q3 : s % 64 ≤ s % 64 + j := by omega
    have q4 : s % 64 + j < s % 64 + (s' - s) := by omega
    rw [e]
    simp [q1, q2, q3, q4]
  · rw [Nat.testBit_xor, Nat.testBit_and, Nat.testBit_two_pow_sub_succ hml, testBit_msk, win_false ho]
    simp [hi]
theorem cnt_andR {B s s' : Nat} (h2 : s < s') (h3 : s' ≤ (s / 64 + 1) * 64) :
    cnt (wd B (s / 64) &&& msk (s % 64) (s % 64 + (s' - s))).testBit 64 = cnt (fun j => B.testBit (s + j)) (s' - s) := by
  refine cnt_window (a := s % 64) (by omega) (fun j hj => ?_) (fun i hi ho => ?_)
  · rw [Nat.testBit_and, testBit_wd, testBit_msk]
    have e : 64 * (s / 64) + (s % 64 + j) = s + j := by omega
    have q1 : s % 64 + j < 64 := by omega
    have q3 : s % 64 ≤ s % 64 + j := by omega
    have q4 : s % 64 + j < s % 64 + (s' - s) := by omega
    rw [e]
    simp [q1, q3, q4]
  · rw [Nat.testBit_and, testBit_msk, win_false ho]
    simp

/-- the world in which the loop begins -/
def rW0 (w : World) (L : BL) (a c : Nat) : World := ((((w.alloc (Obj.cells #[Value.pointer (some ⟨L.p, 0, none⟩)] 33)).alloc (Obj.cells #[Value.int IntKind.i64 0] 3)).alloc (Obj.cells #[Value.int IntKind.i64 ↑a] 3)).alloc (Obj.cells #[Value.int IntKind.i64 (↑a + ↑c)] 3))
theorem rW0_size (w : World) (L : BL) (a c : Nat) : (rW0 w L a c).heap.size = w.heap.size + 4 := by simp [rW0]
theorem RInv.start {w : World} {L : BL} {n B : Nat} (U : Nat → Prop) (h : BRep w L n B) (a c : Nat) : RInv U w (rW0 w L a c) L n B a (a + c) 0 := by
  have hb : Below w.heap.size w (rW0 w L a c) := ((((Below.refl _ _).alloc (Nat.le_refl _) _).alloc (by simp) _).alloc (by simp; omega) _).alloc (by simp; omega) _
  refine ⟨h.below hb, ?_, ?_, ?_, ?_, Chg.ofBelow hb⟩
  · unfold rW0; rw [Below.heap_alloc _ _ _ (by simp; omega), Below.heap_alloc _ _ _ (by simp; omega), Below.heap_alloc _ _ _ (by simp)]; exact Go.heap_alloc_new w _
  · unfold rW0; rw [Below.heap_alloc _ _ _ (by simp), Below.heap_alloc _ _ _ (by simp)]; have := Go.heap_alloc_new (w.alloc (Obj.cells #[Value.pointer (some ⟨L.p, 0, none⟩)] 33)) (Obj.cells #[Value.int IntKind.i64 0] 3); rwa [World.size_alloc] at this
  · unfold rW0; rw [Below.heap_alloc _ _ _ (by simp)]; have := Go.heap_alloc_new ((w.alloc (Obj.cells #[Value.pointer (some ⟨L.p, 0, none⟩)] 33)).alloc (Obj.cells #[Value.int IntKind.i64 0] 3)) (Obj.cells #[Value.int IntKind.i64 (a : Int)] 3); rwa [World.size_alloc, World.size_alloc] at this
  · have := Go.heap_alloc_new (((w.alloc (Obj.cells #[Value.pointer (some ⟨L.p, 0, none⟩)] 33)).alloc (Obj.cells #[Value.int IntKind.i64 0] 3)).alloc (Obj.cells #[Value.int IntKind.i64 (a : Int)] 3)) (Obj.cells #[Value.int IntKind.i64 ((a : Int) + (c : Int))] 3); rw [World.size_alloc, World.size_alloc, World.size_alloc] at this; rw [Int.natCast_add]; exact this

theorem RInv.stored {U : Nat → Prop} {w W W' : World} {L : BL} {n B B' a e c c' : Nat} (h : RInv U w W L n B a e c) (hl : ∀ b, L.U b → b < w.heap.size) (hlu : ∀ b, U b → b < w.heap.size) (hrep : BRep W' L n B') (hchg : Chg U W W') (hs : W.heap.size ≤ W'.heap.size) {C : Int} (hC : C = (c' : Int)) {N : Nat} (hN : w.heap.size ≤ N) :
    RInv U w (W'.setCell ⟨w.heap.size + 1, 0, none⟩ (.int .i64 C)) L n B' a e c' ∧ KeepsFrom N W (W'.setCell ⟨w.heap.size + 1, 0, none⟩ (.int .i64 C)) := by
  subst hC
  have hU : ∀ b, w.heap.size ≤ b → ¬ U b := fun b hb hu => by have := hlu b hu; omega
  have blt : ∀ {b o}, W.heap[b]? = some o → b < W.heap.size := fun hb => (Array.getElem?_eq_some_iff.1 hb).1
  have k : ∀ {b o}, W.heap[b]? = some o → w.heap.size ≤ b → W'.heap[b]? = some o := fun hb hle => (hchg.keep _ (blt hb) (hU _ hle)).trans hb
  have oth : ∀ b, b ≠ w.heap.size + 1 → (W'.setCell ⟨w.heap.size + 1, 0, none⟩ (.int .i64 (c' : Int))).heap[b]? = W'.heap[b]? := fun b hb => Go.heap_setCell_other _ _ _ _ hb
  refine ⟨⟨hrep.kept fun b hu => oth b (by have := hl b hu; omega), ?_, ?_, ?_, ?_, ?_⟩, ?_⟩
  · rw [oth _ (by omega)]; exact k h.b0 (Nat.le_refl _)
  · rw [Go.heap_setCell_same _ _ 0 _ 3 _ (k h.b1 (by omega))]; rfl
  · rw [oth _ (by omega)]; exact k h.b2 (by omega)
  · rw [oth _ (by omega)]; exact k h.b3 (by omega)
  · have hh := h.chg.trans hchg
    exact ⟨hh.os, hh.tape, hh.output, Nat.le_trans hh.size (by simp [World.setCell]), fun b hb hu => (oth b (by omega)).trans (hh.keep b hb hu)⟩
  · refine ⟨by simp [World.setCell, hs], fun b o hb ho hc => ?_⟩
    rw [oth b (fun e => by rw [e, h.b1] at ho; cases ho; simp [Obj.isCells] at hc)]
    exact k ho (by omega)
end Go.Proofs.YtnjlbkbhlcccmaaDoor
