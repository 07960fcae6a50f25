import Derived.Test.YtcjilmafdpnfeaaDoorWEncP
namespace Go.Proofs.YtcjilmafdpnfeaaDoor
open Go.RowKit
set_option linter.unusedVariables false
set_option linter.unusedSimpArgs false
set_option maxRecDepth 20000

/-- the document's table: what each command carries, as bits -/
def carL : List Nat := [0, 25, 128, 64, 26, 56, 16, 138, 135, 7, 3, 3, 19, 12, 12, 83, 3, 131, 3, 8, 67, 19, 8, 32, 3, 147]
def car (c : Nat) : Nat := carL.getD c 0
def hasB (c f : Nat) : Bool := decide (car c / f % 2 = 1)
def CTab (w : World) : Prop := ∀ c, c < 26 → w.cell? ⟨2, c, none⟩ = some (.int .i64 (car c : Nat))
def FTab (w : World) : Prop := ∀ i, i < 5 → w.cell? ⟨1, i, none⟩ = some (.int .i64 ((2 ^ i : Nat) : Int))
theorem CTab.below {w w' : World} (h : CTab w) (hb : Below w.heap.size w w') : CTab w' := fun n hn => (hb.cell (p := ⟨2, n, none⟩) (World.block_lt_of_cell? w _ (h n hn))).trans (h n hn)
theorem FTab.below {w w' : World} (h : FTab w) (hb : Below w.heap.size w w') : FTab w' := fun n hn => (hb.cell (p := ⟨1, n, none⟩) (World.block_lt_of_cell? w _ (h n hn))).trans (h n hn)
theorem car_lt : ∀ c, c < 26 → car c < 256 := by decide

set_option maxHeartbeats 1000000 in
theorem has_any (w : World) (c f : Nat) (hT : CTab w) (hc : c ≤ 25) (hf : 1 ≤ f) (hf2 : f ≤ 128) :
    Calls Tryd.prog 25 #[.int .i64 (c : Int), .int .i64 (f : Int)] w fun e w' => e = .returned (.bool (hasB c f)) ∧ Below w.heap.size w w' := by
  have t0 := hT c (by omega)
  have hl := car_lt c (by omega)
  have HH : Hid (hasB c f = ((wrap64 ((car c : Int) / (f : Int))).tmod 2 == 1)) := hide (by
    have h0 := Nat.div_le_self (car c) f
    have h1 : ((car c : Int) / (f : Int)) = ((car c / f : Nat) : Int) := rfl
    unfold hasB
    rw [h1]
    generalize car c / f = y at h0 ⊢
    have hl : y < 256 := by omega
    have h2 : wrap64 (y : Int) = (y : Int) := by unfold wrap64; omega
    rw [h2, show (y : Int).tmod 2 = ((y % 2 : Nat) : Int) from rfl]
    rw [Bool.eq_iff_iff]
    simp only [decide_eq_true_eq, beq_iff_eq]
    omega)
  generalize hasB c f = r at *
  generalize car c = x at *
  clear hT
  have i1 : (c : Int) < 26 := by omega
  have hf0 : (f : Int) ≠ 0 := by omega
  go_enter Tryd.func25, Tryd.ntmps25
  go_wp2
  go_ret
  refine ⟨?_, Below.refl _ _⟩
  rw [HH.out]
  rfl

/-- the document's spans in memory -/
def SpI (w : World) (v : Value) (l : List (Nat × Nat)) : Prop := ∃ b off cap, v = .slice (some ⟨b, off, none⟩) l.length cap ∧ l.length ≤ cap ∧ cap ≤ maxLen ∧ (∀ q ∈ l, q.1 < 4294967296 ∧ q.2 < 4294967296) ∧
  ∀ i, i < l.length → w.cell? ⟨b, off + 2 * i, none⟩ = some (.int .i64 ((l.getD i (0, 0)).1 : Nat)) ∧ w.cell? ⟨b, off + 2 * i + 1, none⟩ = some (.int .i64 ((l.getD i (0, 0)).2 : Nat))
theorem SpI.one {w : World} (lo hi : Nat) (h1 : lo < 4294967296) (h2 : hi < 4294967296) (t : TypeId) : SpI (w.alloc (.cells #[.int .i64 (lo : Int), .int .i64 (hi : Int)] t)) (.slice (some ⟨w.heap.size, 0, none⟩) 1 1) [(lo, hi)] := by
  refine ⟨_, 0, 1, rfl, Nat.le_refl _, by unfold maxLen; omega, by simpa using ⟨h1, h2⟩, fun i hi' => ?_⟩
  have : i = 0 := by simp at hi'; exact hi'
  subst this
  rw [cell_of_row _ _ _ _ _ _ (Go.heap_alloc_new w _), cell_of_row _ _ _ _ _ _ (Go.heap_alloc_new w _)]
  exact ⟨rfl, rfl⟩
theorem SpI.lit {w : World} (l : List (Nat × Nat)) (t : TypeId) (hl : l.length ≤ 4) (hb : ∀ q ∈ l, q.1 < 4294967296 ∧ q.2 < 4294967296) (cs : Array Value) (hcs : ∀ i, i < l.length → cs[2 * i]? = some (.int .i64 ((l.getD i (0, 0)).1 : Nat)) ∧ cs[2 * i + 1]? = some (.int .i64 ((l.getD i (0, 0)).2 : Nat))) : SpI (w.alloc (.cells cs t)) (.slice (some ⟨w.heap.size, 0, none⟩) l.length l.length) l := by
  refine ⟨_, 0, l.length, rfl, Nat.le_refl _, by unfold maxLen; omega, hb, fun i hi => ?_⟩
  rw [cell_of_row _ _ _ _ _ _ (Go.heap_alloc_new w _), cell_of_row _ _ _ _ _ _ (Go.heap_alloc_new w _), Nat.zero_add]
  exact hcs i hi

end Go.Proofs.YtcjilmafdpnfeaaDoor
