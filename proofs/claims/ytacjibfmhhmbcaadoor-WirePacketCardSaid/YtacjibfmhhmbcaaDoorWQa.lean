import Derived.Test.YtacjibfmhhmbcaaDoorWEncP
namespace Go.Proofs.YtacjibfmhhmbcaaDoor
open Go.RowKit
set_option linter.unusedVariables false
set_option linter.unusedSimpArgs false
set_option maxRecDepth 20000

/-- the document's table: what each command carries, as bits -/
def carL : List Nat := [0, 25, 128, 64, 26, 56, 16, 138, 135, 7, 3, 3, 19, 12, 12, 83, 3, 131, 3, 8, 67, 19, 8, 32, 3, 147]
def car (c : Nat) : Nat := carL.getD c 0
def hasB (c f : Nat) : Bool := decide (car c / f % 2 = 1)
def CTab (w : World) : Prop := ∀ c, c < 26 → w.cell? ⟨4, c, none⟩ = some (.int .i64 (car c : Nat))
def FTab (w : World) : Prop := ∀ i, i < 5 → w.cell? ⟨2, i, none⟩ = some (.int .i64 ((2 ^ i : Nat) : Int))
theorem CTab.below {w w' : World} (h : CTab w) (hb : Below w.heap.size w w') : CTab w' := fun n hn => (hb.cell (p := ⟨4, n, none⟩) (World.block_lt_of_cell? w _ (h n hn))).trans (h n hn)
theorem FTab.below {w w' : World} (h : FTab w) (hb : Below w.heap.size w w') : FTab w' := fun n hn => (hb.cell (p := ⟨2, n, none⟩) (World.block_lt_of_cell? w _ (h n hn))).trans (h n hn)
theorem car_lt : ∀ c, c < 26 → car c < 256 := by decide

set_option maxHeartbeats 1000000 in
theorem has_any (w : World) (c f : Nat) (hT : CTab w) (hc : c ≤ 25) (hf : 1 ≤ f) (hf2 : f ≤ 128) :
    Calls Tryd.prog 28 #[.int .i64 (c : Int), .int .i64 (f : Int)] w fun e w' => e = .returned (.bool (hasB c f)) ∧ Below w.heap.size w w' := by
  have t0 := hT c (by omega)
  have hl := car_lt c (by omega)
  have HH : Hid (hasB c f = ((wrap64 ((car c : Int) / (f : Int))).tmod 2 == 1)) := hide (by
    have h0 := Nat.div_le_self (car c) f
    have h1 : ((car c : Int) / (f : Int)) = ((car c / f : Nat) : Int) := rfl
    unfold hasB
    rw [h1]
    generalize car c / f = y at h0 ⊢
    have hl : y < 256 := by omega
    have h2 : wrap64 (y : Int) = (y : Int) := by unfold wrap64; omega
    rw [h2, show (y : Int).tmod 2 = ((y % 2 : Nat) : Int) from rfl]
    rw [Bool.eq_iff_iff]
    simp only [decide_eq_true_eq, beq_iff_eq]
    omega)
  generalize hasB c f = r at *
  generalize car c = x at *
  clear hT
  have i1 : (c : Int) < 26 := by omega
  have hf0 : (f : Int) ≠ 0 := by omega
  go_enter Tryd.func28, Tryd.ntmps28
  go_wp2
  go_ret
  refine ⟨?_, Below.refl _ _⟩
  rw [HH.out]
  rfl

/-- the document's spans in memory -/
def SpI (w : World) (v : Value) (l : List (Nat × Nat)) : Prop := ∃ b off cap, v = .slice (some ⟨b, off, none⟩) l.length cap ∧ l.length ≤ cap ∧ cap ≤ maxLen ∧ (∀ q ∈ l, q.1 < 4294967296 ∧ q.2 < 4294967296) ∧
  ∀ i, i < l.length → w.cell? ⟨b, off + 2 * i, none⟩ = some (.int .i64 ((l.getD i (0, 0)).1 : Nat)) ∧ w.cell? ⟨b, off + 2 * i + 1, none⟩ = some (.int .i64 ((l.getD i (0, 0)).2 : Nat))
theorem SpI.one {w : World} (lo hi : Nat) (h1 : lo < 4294967296) (h2 : hi < 4294967296) (t : TypeId) : SpI (w.alloc (.cells #[.int .i64 (lo : Int), .int .i64 (hi : Int)] t)) (.slice (some ⟨w.heap.size, 0, none⟩) 1 1) [(lo, hi)] := by
  refine ⟨_, 0, 1, rfl, Nat.le_refl _, by unfold maxLen; omega, by simpa using ⟨h1, h2⟩, fun i hi' => ?_⟩
  have : i = 0 := by simp at hi'; exact hi'
  subst this
  rw [cell_of_row _ _ _ _ _ _ (Go.heap_alloc_new w _), cell_of_row _ _ _ _ _ _ (Go.heap_alloc_new w _)]
  exact ⟨rfl, rfl⟩
theorem SpI.lit {w : World} (l : List (Nat × Nat)) (t : TypeId) (hl : l.length ≤ 4) (hb : ∀ q ∈ l, q.1 < 4294967296 ∧ q.2 < 4294967296) (cs : Array Value) (hcs : ∀ i, i < l.length → cs[2 * i]? = some (.int .i64 ((l.getD i (0, 0)).1 : Nat)) ∧ cs[2 * i + 1]? = some (.int .i64 ((l.getD i (0, 0)).2 : Nat))) : SpI (w.alloc (.cells cs t)) (.slice (some ⟨w.heap.size, 0, none⟩) l.length l.length) l := by
  refine ⟨_, 0, l.length, rfl, Nat.le_refl _, by unfold maxLen; omega, hb, fun i hi => ?_⟩
  rw [cell_of_row _ _ _ _ _ _ (Go.heap_alloc_new w _), cell_of_row _ _ _ _ _ _ (Go.heap_alloc_new w _), Nat.zero_add]
  exact hcs i hi

set_option maxHeartbeats 1000000 in
theorem inside_any (w : World) (v : Value) (l : List (Nat × Nat)) (x : Nat) (h : SpI w v l) (h1 : x < 4611686018427387904) :
    Calls Tryd.prog 41 #[.int .i64 (x : Int), v] w fun e w' => e = .returned (.bool (meets l x x)) ∧ Below w.heap.size w w' := by
  obtain ⟨b, off, cap, rfl, hl, hm, hq, hc⟩ := h
  unfold maxLen at hm
  have HC := hide hc
  have HQ := hide hq
  clear hc hq
  go_enter Tryd.func41, Tryd.ntmps41
  go_wp2_with fail
  go_loopw [5] (fun i wr => ∃ k : Nat, k ≤ l.length ∧ i = .int .i64 k ∧ Hid (meets (l.take k) x x = false) ∧ Below w.heap.size w wr) (fun i _ => l.length - (intOf i).toNat)
  case atStart => exact ⟨0, Nat.zero_le _, rfl, hide rfl, Below.refl _ _⟩
  case round =>
    obtain ⟨k, hk, rfl, hno, hbel⟩ := hrel
    by_cases hlt : k < l.length
    · obtain ⟨d0, d1⟩ := HC.out k hlt
      have c0 := (hbel.cell (p := ⟨b, off + 2 * k, none⟩) (World.block_lt_of_cell? w _ d0)).trans d0
      have c1 := (hbel.cell (p := ⟨b, off + 2 * k + 1, none⟩) (World.block_lt_of_cell? w _ d1)).trans d1
      have hst : l.take (k + 1) = l.take k ++ [l.getD k (0, 0)] := by
        rw [List.take_succ_eq_append_getElem hlt]; simp [List.getD, hlt]
      have hqq := HQ.out (l.getD k (0, 0)) (by simp [List.getD, hlt])
      have HNX : Hid (meets (l.take (k + 1)) x x = (meets (l.take k) x x || (decide ((l.getD k (0, 0)).1 ≤ x) && decide (x ≤ (l.getD k (0, 0)).2)))) := hide (by rw [hst]; simp [meets])
      have HYES : Hid ((decide ((l.getD k (0, 0)).1 ≤ x) && decide (x ≤ (l.getD k (0, 0)).2)) = true → meets l x x = true) := hide fun hh => by
        unfold meets
        exact List.any_eq_true.2 ⟨l.getD k (0, 0), by simp [List.getD, hlt], hh⟩
      have HBX := hide fun n => bel_drewN hbel n
      clear d0 d1 hst HC HQ
      generalize (l.getD k (0, 0)).1 = q1 at *
      generalize (l.getD k (0, 0)).2 = q2 at *
      have hadd : off + 2 * k = off + k * 2 := by omega
      rw [hadd] at c0 c1
      by_cases ha : q1 ≤ x
      · by_cases hb : x ≤ q2
        · go_wp2
          go_ret
          exact ⟨by rw [HYES.out (by simp [ha, hb])]; rfl, by first | exact hbel | exact HBX.out _⟩
        · have HN := hide (show meets (l.take (k + 1)) x x = false by rw [HNX.out, hno.out]; simp [ha, hb])
          go_wp2
          go_roundw
          case rel => exact ⟨k + 1, by omega, by go_num, HN, by first | exact hbel | exact HBX.out _⟩
          case measure => simp [intOf]; omega
      · have HN := hide (show meets (l.take (k + 1)) x x = false by rw [HNX.out, hno.out]; simp [ha])
        go_wp2
        go_roundw
        case rel => exact ⟨k + 1, by omega, by go_num, HN, by first | exact hbel | exact HBX.out _⟩
        case measure => simp [intOf]; omega
    · have HE : Hid (meets l x x = false) := hide (by have := hno.out; rwa [List.take_of_length_le (by omega)] at this)
      go_wp2
      go_ret
      exact ⟨by rw [HE.out]; rfl, hbel⟩
end Go.Proofs.YtacjibfmhhmbcaaDoor
