import Derived.Test.YtijfnacplikibabKRep
namespace Go.Proofs.Ytijfnacplikibab
open Go.RowKit
set_option linter.unusedVariables false
set_option linter.unusedSimpArgs false
set_option maxRecDepth 20000

theorem pl_le (l : List (Int × Int)) (o : Int) : pl l o ≤ l.length := List.findIdx_le_length
theorem pl_not {l : List (Int × Int)} {o : Int} {j : Nat} (h : j < pl l o) : ((l.getD j (0, 0)).1 == o) = false := by
  have := List.not_of_lt_findIdx h
  have hj : j < l.length := Nat.lt_of_lt_of_le h (pl_le l o)
  simpa [List.getD, hj] using this
theorem pl_at {l : List (Int × Int)} {o : Int} (h : pl l o < l.length) : ((l.getD (pl l o) (0, 0)).1 == o) = true := by
  have h' : List.findIdx (fun c : Int × Int => c.1 == o) l < l.length := h
  have := List.findIdx_getElem (xs := l) (p := fun c : Int × Int => c.1 == o) (w := h')
  simpa [List.getD, h', pl] using this
theorem below_cell {w x : World} (h : Below w.heap.size w x) {g : Nat} (hg : g < w.heap.size) (i : Nat) : x.cell? ⟨g, i, none⟩ = w.cell? ⟨g, i, none⟩ := World.cell?_of_block (h.block g hg)
set_option maxHeartbeats 1000000 in
theorem indexFunc_any (w : World) (v : Value) (l : List (Int × Int)) (g : Nat) (o : Int) (hl : CRow w v l) (hc : w.cell? ⟨g, 0, none⟩ = some (.int .i64 o)) (hg : g < w.heap.size) :
    Calls Try.prog 65 #[v, .func (.func 66) #[] #[.pointer (some ⟨g, 0, none⟩)]] w fun e w' => e = .returned (.int .i64 (plV l o)) ∧ Below w.heap.size w w' := by
  obtain ⟨a, cap, rfl, h1, h2⟩ := rowForm hl
  unfold maxLen at h2
  have HP := hide fun (x : World) (hb : Below w.heap.size w x) (c : Int × Int) => place1_any x g o c.1 c.2 ((below_cell hb hg 0).trans hc)
  have HC : Hid (∀ (j : Nat) (x : World), Below w.heap.size w x → j < l.length → ∃ g, a = some ⟨g, 0, none⟩ ∧ (x.cell? ⟨g, j * 2, none⟩ = some (.int .i64 (l.getD j (0, 0)).1)) ∧ x.cell? ⟨g, j * 2 + 1, none⟩ = some (.int .i64 (l.getD j (0, 0)).2)) := hide fun j x hx hj => by
    obtain ⟨g', cap', e, hlt, c1, c2⟩ := CRow.cell hl (c := l.getD j (0, 0)) (j := j) (by simp [List.getD, hj])
    simp only [Value.slice.injEq] at e
    exact ⟨g', e.1, (below_cell hx hlt _).trans c1, (below_cell hx hlt _).trans c2⟩
  have HN : Hid (∀ j, j < pl l o → ((l.getD j (0, 0)).1 == o) = false) := hide fun j hj => pl_not hj
  have HA : Hid (pl l o < l.length → ((l.getD (pl l o) (0, 0)).1 == o) = true) := hide pl_at
  have HL : Hid (pl l o ≤ l.length) := hide (pl_le l o)
  have HV : Hid (plV l o = if pl l o < l.length then (pl l o : Int) else -1) := hide rfl
  have HB0 : Hid (Below w.heap.size w w) := hide (Below.refl _ w)
  clear hl hc hg
  generalize hk : l.length = n at *
  generalize pl l o = k at *
  generalize plV l o = kv at *
  go_enter Try.func65, Try.ntmps65
  go_wp2_with fail
  go_loopw [8] (fun i wr => ∃ j : Nat, j ≤ k ∧ i = .int .i64 (j : Int) ∧ Below w.heap.size w wr) (fun i _ => k - (intOf i).toNat)
  case atStart => exact ⟨0, Nat.zero_le _, rfl, HB0.out⟩
  case round =>
    obtain ⟨j, hj, rfl, hb⟩ := hrel
    have HB := hide hb
    clear hb
    by_cases hn : j < n
    · obtain ⟨gg, rfl, c1, c2⟩ := HC.out j wr HB.out hn
      have HQ := hide (HP.out wr HB.out (l.getD j (0, 0)))
      by_cases e : j = k
      · subst e
        have ha := HA.out hn
        have hv : kv = (j : Int) := by rw [HV.out, if_pos hn]
        subst hv
        clear HA HN HC HP
        generalize l.getD j (0, 0) = c at *
        obtain ⟨x, y⟩ := c
        dsimp only at c1 c2 ha HQ
        go_wp2_with (go_at_call 66; refine HQ.out.mono ?_; rintro e' w2 ⟨rfl, hw2⟩; have HB2 := hide (HB.out.trans (hw2.mono HB.out.size)); clear HQ hw2 HB)
        go_ret
        exact ⟨rfl, HB2.out⟩
      · have ha := HN.out j (by omega)
        clear HA HN HC HP
        generalize l.getD j (0, 0) = c at *
        obtain ⟨x, y⟩ := c
        dsimp only at c1 c2 ha HQ
        go_wp2_with (go_at_call 66; refine HQ.out.mono ?_; rintro e' w2 ⟨rfl, hw2⟩; have HB2 := hide (HB.out.trans (hw2.mono HB.out.size)); clear HQ hw2 HB)
        go_roundw
        case rel => exact ⟨j + 1, by omega, by go_num, HB2.out⟩
        case measure => simp [intOf]; omega
    · have hkn := HL.out
      have hv : kv = -1 := by rw [HV.out, if_neg (by omega)]
      subst hv
      clear HA HN HC HP HV
      go_wp2_with fail
      go_ret
      exact ⟨rfl, HB.out⟩
set_option maxHeartbeats 1000000 in
theorem place_any (w : World) (v : Value) (l : List (Int × Int)) (o : Int) (hl : CRow w v l) :
    Calls Try.prog 55 #[v, .int .i64 o] w fun e w' => e = .returned (.int .i64 (plV l o)) ∧ Below w.heap.size w w' := by
  have hmf : ∀ (fn : Fn) (first cap : Array Value) (w : World), (Instr.makeFunc fn first cap).run Try.prog w = .ok (.func fn first cap) w := fun _ _ _ _ => rfl
  have HB := hide ((Below.refl _ w).alloc (Nat.le_refl _) (.cells #[.int .i64 o] 3))
  have HI := hide (indexFunc_any (w.alloc (.cells #[.int .i64 o] 3)) v l w.heap.size o (hl.kept fun g hg => RowKit.Below.heap_alloc _ _ _ (hl.lt hg)) (by simp [go_sem]) (by simp))
  obtain ⟨a, cap, rfl, h1, h2⟩ := rowForm hl
  clear hl
  go_enter Try.func55, Try.ntmps55
  go_wp2_with (go_at_call 65; refine HI.out.mono ?_; rintro e' w2 ⟨rfl, hw2⟩; have HB2 := hide (HB.out.trans (hw2.mono HB.out.size)); clear HI hw2 HB)
  go_ret
  exact ⟨rfl, HB2.out⟩
end Go.Proofs.Ytijfnacplikibab
