import Derived.Test.YtcjilmafdpnfeaaDoorWCar
import Derived.Deep.RegionHeld3
namespace Go.Proofs.YtcjilmafdpnfeaaDoor
open Go.RowKit
set_option linter.unusedVariables false
set_option linter.unusedSimpArgs false
set_option maxRecDepth 20000

/-- spans in memory -/
def SpL (w : World) (v : Value) (l : List (Nat × Nat)) : Prop := ∃ b off cap, v = .slice (some ⟨b, off, none⟩) l.length cap ∧ l.length ≤ cap ∧ cap ≤ maxLen ∧ (∀ q ∈ l, q.1 < 18446744073709551616 ∧ q.2 < 18446744073709551616) ∧
  ∀ i, i < l.length → w.cell? ⟨b, off + 2 * i, none⟩ = some (.int .u64 ((l.getD i (0, 0)).1 : Nat)) ∧ w.cell? ⟨b, off + 2 * i + 1, none⟩ = some (.int .u64 ((l.getD i (0, 0)).2 : Nat))
def meets (l : List (Nat × Nat)) (lo hi : Nat) : Bool := l.any fun q => decide (q.1 ≤ hi) && decide (lo ≤ q.2)

set_option maxHeartbeats 1000000 in
theorem meet_any (w : World) (v : Value) (l : List (Nat × Nat)) (lo hi : Nat) (h : SpL w v l) (h1 : lo < 18446744073709551616) (h2 : hi < 18446744073709551616) :
    Calls Tryd.prog 19 #[v, .int .u64 (lo : Int), .int .u64 (hi : Int)] w fun e w' => e = .returned (.bool (meets l lo hi)) ∧ Below w.heap.size w w' := by
  obtain ⟨b, off, cap, rfl, hl, hm, hq, hc⟩ := h
  unfold maxLen at hm
  have HC := hide hc
  have HQ := hide hq
  clear hc hq
  go_enter Tryd.func19, Tryd.ntmps19
  go_wp2_with fail
  go_loopw [11] (fun i wr => ∃ k : Nat, k ≤ l.length ∧ i = .int .i64 k ∧ Hid (meets (l.take k) lo hi = false) ∧ Below w.heap.size w wr) (fun i _ => l.length - (intOf i).toNat)
  case atStart => exact ⟨0, Nat.zero_le _, rfl, hide rfl, Below.refl _ _⟩
  case round =>
    obtain ⟨k, hk, rfl, hno, hbel⟩ := hrel
    by_cases hlt : k < l.length
    · obtain ⟨d0, d1⟩ := HC.out k hlt
      have c0 := (hbel.cell (p := ⟨b, off + 2 * k, none⟩) (World.block_lt_of_cell? w _ d0)).trans d0
      have c1 := (hbel.cell (p := ⟨b, off + 2 * k + 1, none⟩) (World.block_lt_of_cell? w _ d1)).trans d1
      have hst : l.take (k + 1) = l.take k ++ [l.getD k (0, 0)] := by
        rw [List.take_succ_eq_append_getElem hlt]; simp [List.getD, hlt]
      have hqq := HQ.out (l.getD k (0, 0)) (by simp [List.getD, hlt])
      have HNX : Hid (meets (l.take (k + 1)) lo hi = (meets (l.take k) lo hi || (decide ((l.getD k (0, 0)).1 ≤ hi) && decide (lo ≤ (l.getD k (0, 0)).2)))) := hide (by rw [hst]; simp [meets])
      have HYES : Hid ((decide ((l.getD k (0, 0)).1 ≤ hi) && decide (lo ≤ (l.getD k (0, 0)).2)) = true → meets l lo hi = true) := hide fun hh => by
        unfold meets
        exact List.any_eq_true.2 ⟨l.getD k (0, 0), by simp [List.getD, hlt], hh⟩
      have HBX := hide fun o => hbel.alloc hbel.size o
      clear d0 d1 hst HC HQ
      generalize (l.getD k (0, 0)).1 = q1 at *
      generalize (l.getD k (0, 0)).2 = q2 at *
      have hadd : off + 2 * k = off + k * 2 := by omega
      rw [hadd] at c0 c1
      have hadd1 : off + k * 2 + 1 = off + k * 2 + 1 := rfl
      by_cases ha : q1 ≤ hi
      · by_cases hb : lo ≤ q2
        · go_wp2
          go_ret
          exact ⟨by rw [HYES.out (by simp [ha, hb])]; rfl, HBX.out _⟩
        · have HN := hide (show meets (l.take (k + 1)) lo hi = false by rw [HNX.out, hno.out]; simp [ha, hb])
          go_wp2
          go_roundw
          case rel => exact ⟨k + 1, by omega, by go_num, HN, HBX.out _⟩
          case measure => simp [intOf]; omega
      · have HN := hide (show meets (l.take (k + 1)) lo hi = false by rw [HNX.out, hno.out]; simp [ha])
        go_wp2
        go_roundw
        case rel => exact ⟨k + 1, by omega, by go_num, HN, HBX.out _⟩
        case measure => simp [intOf]; omega
    · have HE : Hid (meets l lo hi = false) := hide (by have := hno.out; rwa [List.take_of_length_le (by omega)] at this)
      go_wp2
      go_ret
      exact ⟨by rw [HE.out]; rfl, hbel⟩
end Go.Proofs.YtcjilmafdpnfeaaDoor
