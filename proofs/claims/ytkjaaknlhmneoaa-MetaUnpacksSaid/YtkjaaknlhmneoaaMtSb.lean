import Derived.Test.YtkjaaknlhmneoaaMtHw4
namespace Go.Proofs.Ytkjaaknlhmneoaa
open Go.RowKit
open Num
set_option linter.unusedVariables false
set_option linter.unusedSimpArgs false
set_option maxRecDepth 20000

/-- a list of blocks, wherever they lie -/
def RB (w : World) (v : Value) (m s : Nat) (B : Nat → List Nat) : Prop := ∃ O cap, v = .slice (some ⟨O, 0, none⟩) m cap ∧ m ≤ cap ∧ cap ≤ maxLen ∧ ∀ k, k < m → ∃ g, w.cell? ⟨O, k, none⟩ = some (.slice (some ⟨g, 0, none⟩) s s) ∧ w.heap[g]? = some (.cells ((B k).map byteV).toArray 5 (0, 0))
theorem PB.rb {w : World} {O m s : Nat} {B : Nat → List Nat} (h : PB w O m s B) (hm : m ≤ 8388608) : RB w (.slice (some ⟨O, 0, none⟩) m m) m s B := ⟨O, m, rfl, Nat.le_refl _, by unfold maxLen; omega, fun k hk => ⟨O + 1 + k, h.cell hk, h.blk k hk⟩⟩
theorem RB.below {w w' : World} {v : Value} {m s : Nat} {B : Nat → List Nat} (h : RB w v m s B) (hb : Below w.heap.size w w') : RB w' v m s B := by
  obtain ⟨O, cap, e, q1, q2, hc⟩ := h
  refine ⟨O, cap, e, q1, q2, fun k hk => ?_⟩
  obtain ⟨g, c1, c2⟩ := hc k hk
  have hO : O < w.heap.size := by
    by_cases h : O < w.heap.size
    · exact h
    · simp [World.cell?, Array.getElem?_eq_none (Nat.le_of_not_lt h)] at c1
  exact ⟨g, by rw [World.cell?_of_block (hb.block O hO)]; exact c1, (hb.block g (heap_lt c2)).trans c2⟩
theorem sameBlocks_nil (w : World) : Calls Try.prog 23 #[.slice none 0 0, .slice none 0 0] w fun e w' => e = .returned (.bool true) ∧ w' = w := by
  go_enter Try.func23, Try.ntmps23
  go_wp2_with fail
  go_loopw [5] (fun x wr => x = .int .i64 0 ∧ wr = w) (fun x _ => 0)
  case atStart => exact ⟨rfl, rfl⟩
  case round =>
    obtain ⟨rfl, rfl⟩ := hrel
    go_wp2_with fail
    go_ret
    exact ⟨rfl, rfl⟩
set_option maxHeartbeats 1000000 in
theorem sameBlocks_eq (w : World) (u v : Value) (m s : Nat) (B : Nat → List Nat) (hu : RB w u m s B) (hv : RB w v m s B) (hl : ∀ k, k < m → (B k).length = s) (hs : s ≤ 1024) : Calls Try.prog 23 #[u, v] w fun e w' => e = .returned (.bool true) ∧ ∃ q, w' = w.drewN q := by
  obtain ⟨O, cap, rfl, h1, h2, h3⟩ := hu
  obtain ⟨O', cap', rfl, h1', h2', h3'⟩ := hv
  unfold maxLen at h2 h2'
  have HC : Hid (∀ q i, i < m → ∃ g g', (w.drewN q).cell? ⟨O, i, none⟩ = some (.slice (some ⟨g, 0, none⟩) s s) ∧ (w.drewN q).cell? ⟨O', i, none⟩ = some (.slice (some ⟨g', 0, none⟩) s s) ∧ Calls Try.prog 19 #[.slice (some ⟨g, 0, none⟩) s s, .slice (some ⟨g', 0, none⟩) s s] (w.drewN q).drew fun e w' => e = .returned (.bool true) ∧ ∃ q', w' = (w.drewN q).drew.drewN q') := hide fun q i hi => by
    obtain ⟨g, c1, c2⟩ := h3 i hi
    obtain ⟨g', c1', c2'⟩ := h3' i hi
    refine ⟨g, g', c1, c1', ?_⟩
    have := sameBlk (w.drewN q).drew g g' s (B i) (B i) c2 c2' (hl i hi) (hl i hi) hs
    rw [decide_eq_true rfl] at this
    exact this
  clear h3 h3' hl
  have hne : ((m : Int) != (m : Int)) = false := by simp
  go_enter Try.func23, Try.ntmps23
  go_wp2_with fail
  go_loopw [5] (fun x wr => ∃ i q : Nat, i ≤ m ∧ x = .int .i64 (i : Int) ∧ wr = w.drewN q) (fun x _ => m - (intOf x).toNat)
  case atStart => exact ⟨0, 0, Nat.zero_le _, rfl, rfl⟩
  case round =>
    obtain ⟨i, q, hi, rfl, hwr⟩ := hrel
    have HWR := hide hwr
    by_cases hlt : i < m
    · obtain ⟨g, g', c1, c2, hS⟩ := HC.out q i hlt
      have HS := hide hS
      rw [← hwr] at c1 c2 HS
      clear hwr hS
      go_wp2_with fail
      refine wp_still_tail 8 (by kernel_rfl) (by kernel_rfl) ?_
      simp only [List.take_succ_cons, List.take_zero, List.drop_succ_cons, List.drop_zero]
      repeat still_step
      refine wpStill_nil ?_
      go_wp2_with (go_at_call 19; refine HS.out.mono ?_; rintro e8 w8 ⟨rfl, q8, hw8⟩; have HW8 := hide hw8; clear hw8)
      go_roundw
      case rel => exact ⟨i + 1, _, by omega, by go_num, by rw [HW8.out, HWR.out, World.drew_drewN]; exact World.drewN_drewN ..⟩
      case measure => simp [intOf]; omega
    · clear hwr
      go_wp2_with fail
      go_ret
      exact ⟨rfl, q, HWR.out⟩
end Go.Proofs.Ytkjaaknlhmneoaa
