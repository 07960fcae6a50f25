import Derived.Test.YtkjaaknlhmneoaaMtBx
namespace Go.Proofs.Ytkjaaknlhmneoaa
open Go.RowKit
open Num
set_option linter.unusedVariables false
set_option linter.unusedSimpArgs false
set_option maxRecDepth 20000

theorem WRow.usl {w : World} {U L : Nat} {ws : List Nat} (h : WRow w U ws) (hL : ws.length = L) (hb : ∀ i, i < ws.length → ws.getD i 0 < 18446744073709551616) (hm : L ≤ 8388608) : USl w (.slice (some ⟨U, 0, none⟩) L L) ws := by
  refine ⟨some ⟨U, 0, none⟩, L, by rw [hL], by omega, by unfold maxLen; omega, fun x hx => ?_, fun _ => ⟨U, 0, rfl, (Array.getElem?_eq_some_iff.1 h).1, fun i hi => by rw [Nat.zero_add]; exact (h.cell hi).1⟩⟩
  obtain ⟨i, hi, rfl⟩ := List.mem_iff_getElem.1 hx
  have := hb i hi
  simpa [List.getD, hi] using this
set_option maxHeartbeats 1000000 in
theorem sameWords_eq (w : World) (U V L : Nat) (ws : List Nat) (hU : WRow w U ws) (hV : WRow w V ws) (hL : ws.length = L) (hm : L ≤ 8388608) : Calls Try.prog 18 #[.slice (some ⟨U, 0, none⟩) L L, .slice (some ⟨V, 0, none⟩) L L] w fun e w' => e = .returned (.bool true) ∧ Below w.heap.size w w' := by
  have HC : Hid (∀ q i, i < L → (w.drewN q).cell? ⟨U, i, none⟩ = some (.int .u64 (ws.getD i 0 : Nat)) ∧ (w.drewN q).cell? ⟨V, i, none⟩ = some (.int .u64 (ws.getD i 0 : Nat))) := hide fun q i hi => ⟨(hU.cell (by omega)).1, (hV.cell (by omega)).1⟩
  clear hU hV hL
  have hne : ((L : Int) != (L : Int)) = false := by simp
  go_enter Try.func18, Try.ntmps18
  go_wp2_with fail
  go_loopw [5] (fun x wr => ∃ i q : Nat, i ≤ L ∧ x = .int .i64 (i : Int) ∧ wr = w.drewN q) (fun x _ => L - (intOf x).toNat)
  case atStart => exact ⟨0, 0, Nat.zero_le _, rfl, rfl⟩
  case round =>
    obtain ⟨i, q, hi, rfl, hwr⟩ := hrel
    have HWR := hide hwr
    by_cases hlt : i < L
    · obtain ⟨c1, c2⟩ := HC.out q i hlt
      rw [← hwr] at c1 c2
      clear hwr
      generalize ws.getD i 0 = x at *
      have hxx : ((x : Int) != (x : Int)) = false := by simp
      go_wp2_with fail
      go_quiet (fail)
      go_wp2_with fail
      go_roundw
      case rel => exact ⟨i + 1, q + nq, by omega, by go_num, by rw [HWR.out]; exact World.drewN_drewN ..⟩
      case measure => simp [intOf]; omega
    · clear hwr
      go_wp2_with fail
      go_ret
      exact ⟨rfl, by rw [HWR.out]; exact ⟨rfl, rfl, rfl, Nat.le_refl _, fun _ _ => rfl⟩⟩
set_option maxHeartbeats 1000000 in
theorem sameBlk (w : World) (g h s : Nat) (k l : List Nat) (hg : w.heap[g]? = some (.cells (k.map byteV).toArray 5 (0, 0))) (hh : w.heap[h]? = some (.cells (l.map byteV).toArray 5 (0, 0))) (hk : k.length = s) (hl : l.length = s) (hm : s ≤ 1024) : Calls Try.prog 19 #[.slice (some ⟨g, 0, none⟩) s s, .slice (some ⟨h, 0, none⟩) s s] w fun e w' => e = .returned (.bool (decide (k = l))) ∧ ∃ q, w' = w.drewN q := by
  have HC : Hid (∀ q i, i < s → (w.drewN q).cell? ⟨g, i, none⟩ = some (.int .u8 (k.getD i 0 : Nat)) ∧ (w.drewN q).cell? ⟨h, i, none⟩ = some (.int .u8 (l.getD i 0 : Nat))) := hide fun q i hi => by
    constructor
    · show w.cell? _ = _
      rw [cell_of_row _ _ _ _ _ _ hg, List.getElem?_toArray, map_byteV_getD (by omega)]
    · show w.cell? _ = _
      rw [cell_of_row _ _ _ _ _ _ hh, List.getElem?_toArray, map_byteV_getD (by omega)]
  have HE : Hid ((∀ i, i < s → k.getD i 0 = l.getD i 0) → decide (k = l) = true) := hide fun h => decide_eq_true (List.ext_getElem (by omega) fun i h1 h2 => by
    have := h i (by omega)
    simpa [List.getD, h1, h2] using this)
  have HN : Hid (∀ i, k.getD i 0 ≠ l.getD i 0 → decide (k = l) = false) := hide fun i h => decide_eq_false fun e => h (by rw [e])
  clear hg hh hk hl
  have hne : ((s : Int) != (s : Int)) = false := by simp
  generalize decide (k = l) = R at *
  go_enter Try.func19, Try.ntmps19
  go_wp2_with fail
  go_loopw [5] (fun x wr => ∃ i q : Nat, i ≤ s ∧ x = .int .i64 (i : Int) ∧ wr = w.drewN q ∧ ∀ j, j < i → k.getD j 0 = l.getD j 0) (fun x _ => s - (intOf x).toNat)
  case atStart => exact ⟨0, 0, Nat.zero_le _, rfl, rfl, fun j hj => by omega⟩
  case round =>
    obtain ⟨i, q, hi, rfl, hwr, hz⟩ := hrel
    have HWR := hide hwr
    have HZ := hide hz
    clear hz
    by_cases hlt : i < s
    · obtain ⟨c1, c2⟩ := HC.out q i hlt
      rw [← hwr] at c1 c2
      clear hwr
      by_cases he : k.getD i 0 = l.getD i 0
      · have HZ2 : Hid (∀ j, j < i + 1 → k.getD j 0 = l.getD j 0) := hide fun j hj => by
          by_cases e : j = i
          · rw [e]; exact he
          · exact HZ.out j (by omega)
        rw [he] at c1
        clear he HZ HE HN HC
        generalize l.getD i 0 = x at *
        have hxx : ((x : Int) != (x : Int)) = false := by simp
        go_wp2_with fail
        go_quiet (fail)
        go_wp2_with fail
        go_roundw
        case rel => exact ⟨i + 1, q + nq, by omega, by go_num, by rw [HWR.out]; exact World.drewN_drewN .., HZ2.out⟩
        case measure => simp [intOf]; omega
      · have hF := HN.out i he
        subst hF
        have hxx : (((k.getD i 0 : Nat) : Int) != ((l.getD i 0 : Nat) : Int)) = true := by simpa using (show ¬ ((k.getD i 0 : Nat) : Int) = ((l.getD i 0 : Nat) : Int) by omega)
        clear he HZ HE HN HC
        generalize l.getD i 0 = x at *
        generalize k.getD i 0 = y at *
        go_wp2_with fail
        go_quiet (fail)
        go_wp2_with fail
        go_ret
        exact ⟨rfl, q + nq, by rw [HWR.out]; exact World.drewN_drewN ..⟩
    · have hT := HE.out fun j hj => HZ.out j (by omega)
      subst hT
      clear HZ HE HN HC hwr
      go_wp2_with fail
      go_ret
      exact ⟨rfl, q, HWR.out⟩
end Go.Proofs.Ytkjaaknlhmneoaa
