import Derived.Test.YtlkccencilhacaaARp5
namespace Go.Proofs.Ytlkccencilhacaa
open Go.RowKit Go.Sort
open Num
set_option linter.unusedVariables false
set_option linter.unusedSimpArgs false
set_option maxRecDepth 20000

set_option maxHeartbeats 2000000 in
theorem fol_any (w : World) (num age slots : Nat) (c0 c1 c2 st z0 z1 z2 z3 : Int) (num' age' slots' : Nat) (c0' c1' c2' : Int) (s' : Nat) (z0' z1' z2' z3' : Int) (h1 : 1 ≤ slots) (h2 : slots ≤ 16) (h3 : age' < 65536) (h4 : s' < 65536) :
    Calls Try.prog 70 #[.agg (recV num age slots c0 c1 c2 st z0 z1 z2 z3), .agg (recV num' age' slots' c0' c1' c2' (s' : Int) z0' z1' z2' z3')] w (BoolP w (age = min (age' + 1) 65535 ∧ st = (((s' + 4) % slots : Nat) : Int))) := by
  have HB : Hid (∀ k, Below w.heap.size w (((w.alloc (.cells (recV num age slots c0 c1 c2 st z0 z1 z2 z3) 90)).alloc (.cells (recV num' age' slots' c0' c1' c2' (s' : Int) z0' z1' z2' z3') 90)).drewN k)) := hide fun k => by
    have hb := ((Below.refl w.heap.size w).alloc (Nat.le_refl _) (.cells (recV num age slots c0 c1 c2 st z0 z1 z2 z3) 90)).alloc (by simp) (.cells (recV num' age' slots' c0' c1' c2' (s' : Int) z0' z1' z2' z3') 90)
    exact hb.trans (((Qt.refl _).drewN k).2.mono hb.size)
  have hrow1 : ((w.alloc (.cells (recV num age slots c0 c1 c2 st z0 z1 z2 z3) 90)).alloc (.cells (recV num' age' slots' c0' c1' c2' (s' : Int) z0' z1' z2' z3') 90)).heap[w.heap.size]? = some (.cells (recV num age slots c0 c1 c2 st z0 z1 z2 z3) 90 (0, 0)) := by
    rw [Below.heap_alloc _ _ _ (by simp)]; exact Go.heap_alloc_new _ _
  have hrow2 : ((w.alloc (.cells (recV num age slots c0 c1 c2 st z0 z1 z2 z3) 90)).alloc (.cells (recV num' age' slots' c0' c1' c2' (s' : Int) z0' z1' z2' z3') 90)).heap[w.heap.size + 1]? = some (.cells (recV num' age' slots' c0' c1' c2' (s' : Int) z0' z1' z2' z3') 90 (0, 0)) := by
    have := Go.heap_alloc_new (w.alloc (.cells (recV num age slots c0 c1 c2 st z0 z1 z2 z3) 90)) (.cells (recV num' age' slots' c0' c1' c2' (s' : Int) z0' z1' z2' z3') 90)
    rw [World.size_alloc] at this
    exact this
  generalize hw1 : (w.alloc (.cells (recV num age slots c0 c1 c2 st z0 z1 z2 z3) 90)).alloc (.cells (recV num' age' slots' c0' c1' c2' (s' : Int) z0' z1' z2' z3') 90) = w1 at *
  have d1 : w1.cell? ⟨w.heap.size, 1, none⟩ = some (.int .i64 (age : Int)) := cell_of_row _ _ _ _ _ _ hrow1
  have d2 : w1.cell? ⟨w.heap.size, 2, none⟩ = some (.int .i64 (slots : Int)) := cell_of_row _ _ _ _ _ _ hrow1
  have d6 : w1.cell? ⟨w.heap.size, 6, none⟩ = some (.int .i64 st) := cell_of_row _ _ _ _ _ _ hrow1
  have e1 : w1.cell? ⟨w.heap.size + 1, 1, none⟩ = some (.int .i64 (age' : Int)) := cell_of_row _ _ _ _ _ _ hrow2
  have e6 : w1.cell? ⟨w.heap.size + 1, 6, none⟩ = some (.int .i64 (s' : Int)) := cell_of_row _ _ _ _ _ _ hrow2
  clear hrow1 hrow2
  have a0 : IntKind.i64.wrap ((age' : Int) + 1) = (age' : Int) + 1 := by simp [IntKind.wrap, IntKind.bits, IntKind.signed]; omega
  have a2 : ¬ (slots : Int) = 0 := by omega
  have a3 : IntKind.i64.wrap ((s' : Int) + 4) = (s' : Int) + 4 := by simp [IntKind.wrap, IntKind.bits, IntKind.signed]; omega
  have a4 : ((s' : Int) + 4).tmod (slots : Int) = (((s' + 4) % slots : Nat) : Int) := by rw [Int.tmod_eq_emod_of_nonneg (by omega)]; simp
  have hrr : (((s' + 4) % slots : Nat) : Int) < 16 := by have := Nat.mod_lt (s' + 4) (show 0 < slots by omega); omega
  have hrr0 : 0 ≤ (((s' + 4) % slots : Nat) : Int) := by omega
  have a5 : ((s' : Int) + 4) % (slots : Int) = (((s' + 4) % slots : Nat) : Int) := by simp
  have HMN : Hid (∀ x : Int, x = min ((age' : Int) + 1) 65535 → (age = min (age' + 1) 65535 ↔ (age : Int) = x)) := hide fun x hx => by omega
  generalize (((s' + 4) % slots : Nat) : Int) = rr at *
  have a6 : IntKind.i64.wrap rr = rr := by simp [IntKind.wrap, IntKind.bits, IntKind.signed]; omega
  have a7 : IntKind.i64.wrap (((s' : Int) + 4) % (slots : Int)) = rr := by rw [a5, a6]
  have a8 : ¬ slots = 0 := by omega
  obtain ⟨mm, hmm⟩ : ∃ mm : Int, min ((age' : Int) + 1) 65535 = mm := ⟨_, rfl⟩
  have HM2 : Hid (age = min (age' + 1) 65535 ↔ (age : Int) = mm) := hide (HMN.out mm hmm.symm)
  clear HMN h1 h2 h3 h4
  generalize (age = min (age' + 1) 65535) = PA at *
  by_cases ha : (age : Int) = mm
  · have b0 : ((age : Int) == mm) = true := by simp [ha]
    have HA : Hid (PA) := hide (HM2.out.2 ha)
    clear ha
    go_enter Try.func70, Try.ntmps70
    go_wp2_with fail
    try clear hw1
    go_quiet (fail)
    go_wp2_with fail
    go_ret
    exact ⟨_, rfl, by simp [HA.out, b0], HB.out _⟩
  · have b0 : ((age : Int) == mm) = false := by simp [ha]
    have HA : Hid (¬ PA) := hide fun h => ha (HM2.out.1 h)
    clear ha
    go_enter Try.func70, Try.ntmps70
    go_wp2_with fail
    try clear hw1
    go_quiet (fail)
    go_wp2_with fail
    go_ret
    exact ⟨_, rfl, by simp [HA.out, b0], HB.out _⟩
end Go.Proofs.Ytlkccencilhacaa
