import Derived.Test.YtlmfdbimchhjjabIdMir
namespace Go.Proofs.Ytlmfdbimchhjjab
open Go.RowKit
set_option linter.unusedVariables false
set_option linter.unusedSimpArgs false
set_option maxRecDepth 20000

theorem rmatch_any (w : World) (x y : Int) : Calls Try.prog 45 #[.int .u64 x, .int .u64 y] w fun e w' => e = .returned (.bool (mt x y)) ∧ w' = w := by
  by_cases h : x = y
  case neg =>
    rw [show mt x y = false by simp [mt, h]]
    go_enter Try.func45, Try.ntmps45
    go_wp2_with fail
    go_ret
    exact ⟨by first | rfl | simp [h], rfl⟩
  subst h
  by_cases h0 : x = 0
  · subst h0
    go_enter Try.func45, Try.ntmps45
    go_wp2_with fail
    go_ret
    exact ⟨rfl, rfl⟩
  by_cases h4 : x = 4
  · subst h4
    go_enter Try.func45, Try.ntmps45
    go_wp2_with fail
    go_ret
    exact ⟨rfl, rfl⟩
  rw [show mt x x = true by simp [mt, nil4, h0, h4]]
  go_enter Try.func45, Try.ntmps45
  go_wp2_with fail
  go_ret
  exact ⟨by first | rfl | simp [h0, h4], rfl⟩
theorem old_any (w : World) (z : Int) (g : Gn) : Calls Try.prog 46 #[.int .u64 z, g.val] w fun e w' => e = .returned (.bool (g.hip z)) ∧ ∃ X, w' = w.alloc X := by
  have H1 := hide fun w => rmatch_any w z g.o1
  have H2 := hide fun w => rmatch_any w z g.o2
  unfold Gn.hip
  obtain ⟨c, b, o1, o2⟩ := g
  unfold Gn.val
  dsimp only at *
  generalize mt z o1 = q1 at *
  generalize mt z o2 = q2 at *
  cases q1 <;> cases q2
  all_goals
    go_enter Try.func46, Try.ntmps46
    go_wp2_with (first
      | (go_at_call 45; (with_reducible refine (H1.out _).mono ?_); rintro e w2 ⟨rfl, rfl⟩)
      | (go_at_call 45; (with_reducible refine (H2.out _).mono ?_); rintro e w2 ⟨rfl, rfl⟩))
    go_ret
    exact ⟨by first | rfl | simp, _, rfl⟩
/-- of two facts about node 0 and node 1 -/
def wy (z o : Bool) (both src : Int) : Int := if z && o then both else if z then src else if o then mirK src else -1
theorem way_any (w : World) (z o : Bool) (both src : Int) : Calls Try.prog 44 #[.bool z, .bool o, .int .i64 both, .int .i64 src] w fun e w' => e = .returned (.int .i64 (wy z o both src)) ∧ Below w.heap.size w w' := by
  have H1 := hide fun w => rmirror_any w src 0
  unfold wy vd at *
  generalize mirK src = mk at *
  cases z <;> cases o
  all_goals
    go_enter Try.func44, Try.ntmps44
    go_wp2_with (first
      | (go_at_call 17; (with_reducible refine (H1.out _).mono ?_); rintro e w2 ⟨rfl, X, Y, Z, rfl⟩))
    go_ret
    exact ⟨by first | rfl | simp, by repeat (first | with_reducible exact Below.refl _ _ | with_reducible refine bl1 ?_ _)⟩
theorem hp_c3 {w : World} {g : Nat} {x0 x1 x2 : Value} {t : TypeId} {fr : Nat × Nat} (h : w.heap[g]? = some (.cells #[x0, x1, x2] t fr)) : w.cell? ⟨g, 0, none⟩ = some x0 ∧ w.cell? ⟨g, 1, none⟩ = some x1 ∧ w.cell? ⟨g, 2, none⟩ = some x2 ∧ g < w.heap.size :=
  ⟨cell_of_row _ _ _ _ _ _ h, cell_of_row _ _ _ _ _ _ h, cell_of_row _ _ _ _ _ _ h, (Array.getElem?_eq_some_iff.1 h).1⟩
set_option maxHeartbeats 2000000 in
theorem shared_any (w : World) (g h : Gn) : Calls Try.prog 63 #[g.val, h.val] w fun e w' => e = .returned (.bool ((mt g.b h.b || h.hip g.b) || (mt g.o1 h.b || h.hip g.o1) || (mt g.o2 h.b || h.hip g.o2))) ∧ Below w.heap.size w w' := by
  have HM := hide fun w z => rmatch_any w z h.b
  have HH := hide fun w z => old_any w z h
  obtain ⟨c, b, o1, o2⟩ := g
  obtain ⟨c', b', p1, p2⟩ := h
  unfold Gn.val at *
  dsimp only at *
  generalize Gn.hip _ = hp at *
  have HL0 := hide (heap_trd w (.cells #[.int .u64 c, .int .u64 b, .int .u64 o1, .int .u64 o2] 24) (.cells #[.int .u64 c', .int .u64 b', .int .u64 p1, .int .u64 p2] 24) (.cells #[.int .u64 b, .int .u64 o1, .int .u64 o2] 83))
  have HB0 := hide (hp_alloc (heap_snd w (.cells #[.int .u64 c, .int .u64 b, .int .u64 o1, .int .u64 o2] 24) (.cells #[.int .u64 c', .int .u64 b', .int .u64 p1, .int .u64 p2] 24)) (.cells #[.int .u64 b, .int .u64 o1, .int .u64 o2] 83))
  have HW0 := hide (bl3 (Below.refl w.heap.size w) (.cells #[.int .u64 c, .int .u64 b, .int .u64 o1, .int .u64 o2] 24) (.cells #[.int .u64 c', .int .u64 b', .int .u64 p1, .int .u64 p2] 24) (.cells #[.int .u64 b, .int .u64 o1, .int .u64 o2] 83))
  go_enter Try.func63, Try.ntmps63
  go_wp2_with fail
  go_loopw [6] (fun i wr => ∃ j : Nat, j ≤ 3 ∧ i = .int .i64 j ∧ wr.heap[w.heap.size + 1 + 1]? = some (.cells #[.int .u64 b, .int .u64 o1, .int .u64 o2] 83 (0, 0)) ∧ wr.heap[w.heap.size + 1]? = some (.cells #[.int .u64 c', .int .u64 b', .int .u64 p1, .int .u64 p2] 24 (0, 0)) ∧ Below w.heap.size w wr ∧ (1 ≤ j → mt b b' = false ∧ hp b = false) ∧ (2 ≤ j → mt o1 b' = false ∧ hp o1 = false) ∧ (3 ≤ j → mt o2 b' = false ∧ hp o2 = false)) (fun i _ => 3 - (intOf i).toNat)
  case atStart => exact ⟨0, by omega, rfl, HL0.out, HB0.out, HW0.out, by omega, by omega, by omega⟩
  case round =>
    clear HL0 HB0 HW0
    obtain ⟨j, hj, rfl, hl, hbb, hbel, h1, h2, h3⟩ := hrel
    have HL := hide hl
    have HBB := hide hbb
    have HB := hide hbel
    have HS := hide (And.intro h1 (And.intro h2 h3))
    obtain ⟨l0, l1, l2, lx⟩ := hp_c3 hl
    obtain ⟨c0, c1, c2, c3, cx⟩ := hp_cells4 hbb
    have HK : Hid (∀ w5, Below wr.heap.size wr w5 → (w5.cell? ⟨w.heap.size + 1 + 1, 0, none⟩ = some (.int .u64 b) ∧ w5.cell? ⟨w.heap.size + 1 + 1, 1, none⟩ = some (.int .u64 o1) ∧ w5.cell? ⟨w.heap.size + 1 + 1, 2, none⟩ = some (.int .u64 o2) ∧ w5.cell? ⟨w.heap.size + 1, 0, none⟩ = some (.int .u64 c') ∧ w5.cell? ⟨w.heap.size + 1, 1, none⟩ = some (.int .u64 b') ∧ w5.cell? ⟨w.heap.size + 1, 2, none⟩ = some (.int .u64 p1) ∧ w5.cell? ⟨w.heap.size + 1, 3, none⟩ = some (.int .u64 p2))) := hide fun w5 k => ⟨(hp_c3 (hp_below HL.out k)).1, (hp_c3 (hp_below HL.out k)).2.1, (hp_c3 (hp_below HL.out k)).2.2.1, (hp_cells4 (hp_below HBB.out k)).1, (hp_cells4 (hp_below HBB.out k)).2.1, (hp_cells4 (hp_below HBB.out k)).2.2.1, (hp_cells4 (hp_below HBB.out k)).2.2.2.1⟩
    have HD := hide ((Below.refl wr.heap.size wr).drew)
    have HD2 := hide ((Below.refl wr.heap.size wr).drew.drew)
    clear hl hbb hbel h1 h2 h3
    obtain rfl | rfl | rfl | rfl : j = 0 ∨ j = 1 ∨ j = 2 ∨ j = 3 := by omega
    · have HM := hide fun w => HM.out w b
      have HH := hide fun w => HH.out w b
      generalize hq1 : mt b b' = q1 at *
      generalize hq2 : hp b = q2 at *
      have HQ1 := hide hq1
      have HQ2 := hide hq2
      clear hq1 hq2
      go_wp2_with fail
      go_region_held3 (fun w' => w'.cell? ⟨w.heap.size + 1 + 1, 0, none⟩ = some (.int .u64 b) ∧ w'.cell? ⟨w.heap.size + 1 + 1, 1, none⟩ = some (.int .u64 o1) ∧ w'.cell? ⟨w.heap.size + 1 + 1, 2, none⟩ = some (.int .u64 o2) ∧ w'.cell? ⟨w.heap.size + 1, 0, none⟩ = some (.int .u64 c') ∧ w'.cell? ⟨w.heap.size + 1, 1, none⟩ = some (.int .u64 b') ∧ w'.cell? ⟨w.heap.size + 1, 2, none⟩ = some (.int .u64 p1) ∧ w'.cell? ⟨w.heap.size + 1, 3, none⟩ = some (.int .u64 p2)) (first | exact ⟨l0, l1, l2, c0, c1, c2, c3⟩ | exact HK.out _ HD.out)
        ((go_at_call 45; refine (HM.out _).mono ?_; rintro e w2 ⟨rfl, rfl⟩))
      all_goals
        (try simp only [Exit.then])
        obtain ⟨l0, l1, l2, c0, c1, c2, c3⟩ := HK.out _ HD.out
        go_wp2_with fail
        go_region_held3 (fun w' => w'.cell? ⟨w.heap.size + 1 + 1, 0, none⟩ = some (.int .u64 b) ∧ w'.cell? ⟨w.heap.size + 1 + 1, 1, none⟩ = some (.int .u64 o1) ∧ w'.cell? ⟨w.heap.size + 1 + 1, 2, none⟩ = some (.int .u64 o2) ∧ w'.cell? ⟨w.heap.size + 1, 0, none⟩ = some (.int .u64 c') ∧ w'.cell? ⟨w.heap.size + 1, 1, none⟩ = some (.int .u64 b') ∧ w'.cell? ⟨w.heap.size + 1, 2, none⟩ = some (.int .u64 p1) ∧ w'.cell? ⟨w.heap.size + 1, 3, none⟩ = some (.int .u64 p2)) (first | exact ⟨l0, l1, l2, c0, c1, c2, c3⟩ | exact HK.out _ HC.out | exact HK.out _ HD2.out | exact HK.out _ HD.out)
          ((go_at_call 46; refine (HH.out _).mono ?_; rintro e w3 ⟨rfl, X, h9⟩; have HC : Hid (Below wr.heap.size wr w3) := hide (by rw [h9]; exact bl1 HD2.out _); clear h9))
        all_goals
          (try simp only [Exit.then])
          cases q1 <;> cases q2
          all_goals
            go_wp2_with fail
            first
              | (go_ret; exact ⟨by simp [HQ1.out, HQ2.out], bel_to HB.out HC.out⟩)
              | (go_roundw
                 case rel => exact ⟨1, by omega, by first | rfl | go_num, hp_below HL.out HC.out, hp_below HBB.out HC.out, bel_to HB.out HC.out, by first | exact fun _ => ⟨HQ1.out, HQ2.out⟩ | simp, fun h => absurd h (by omega), fun h => absurd h (by omega)⟩
                 case measure => (first | (simp [intOf]; done) | (simp [intOf]; omega)))
    · have HM := hide fun w => HM.out w o1
      have HH := hide fun w => HH.out w o1
      generalize hq1 : mt o1 b' = q1 at *
      generalize hq2 : hp o1 = q2 at *
      have HQ1 := hide hq1
      have HQ2 := hide hq2
      clear hq1 hq2
      go_wp2_with fail
      go_region_held3 (fun w' => w'.cell? ⟨w.heap.size + 1 + 1, 0, none⟩ = some (.int .u64 b) ∧ w'.cell? ⟨w.heap.size + 1 + 1, 1, none⟩ = some (.int .u64 o1) ∧ w'.cell? ⟨w.heap.size + 1 + 1, 2, none⟩ = some (.int .u64 o2) ∧ w'.cell? ⟨w.heap.size + 1, 0, none⟩ = some (.int .u64 c') ∧ w'.cell? ⟨w.heap.size + 1, 1, none⟩ = some (.int .u64 b') ∧ w'.cell? ⟨w.heap.size + 1, 2, none⟩ = some (.int .u64 p1) ∧ w'.cell? ⟨w.heap.size + 1, 3, none⟩ = some (.int .u64 p2)) (first | exact ⟨l0, l1, l2, c0, c1, c2, c3⟩ | exact HK.out _ HD.out)
        ((go_at_call 45; refine (HM.out _).mono ?_; rintro e w2 ⟨rfl, rfl⟩))
      all_goals
        (try simp only [Exit.then])
        obtain ⟨l0, l1, l2, c0, c1, c2, c3⟩ := HK.out _ HD.out
        go_wp2_with fail
        go_region_held3 (fun w' => w'.cell? ⟨w.heap.size + 1 + 1, 0, none⟩ = some (.int .u64 b) ∧ w'.cell? ⟨w.heap.size + 1 + 1, 1, none⟩ = some (.int .u64 o1) ∧ w'.cell? ⟨w.heap.size + 1 + 1, 2, none⟩ = some (.int .u64 o2) ∧ w'.cell? ⟨w.heap.size + 1, 0, none⟩ = some (.int .u64 c') ∧ w'.cell? ⟨w.heap.size + 1, 1, none⟩ = some (.int .u64 b') ∧ w'.cell? ⟨w.heap.size + 1, 2, none⟩ = some (.int .u64 p1) ∧ w'.cell? ⟨w.heap.size + 1, 3, none⟩ = some (.int .u64 p2)) (first | exact ⟨l0, l1, l2, c0, c1, c2, c3⟩ | exact HK.out _ HC.out | exact HK.out _ HD2.out | exact HK.out _ HD.out)
          ((go_at_call 46; refine (HH.out _).mono ?_; rintro e w3 ⟨rfl, X, h9⟩; have HC : Hid (Below wr.heap.size wr w3) := hide (by rw [h9]; exact bl1 HD2.out _); clear h9))
        all_goals
          (try simp only [Exit.then])
          cases q1 <;> cases q2
          all_goals
            go_wp2_with fail
            first
              | (go_ret; exact ⟨by simp [HQ1.out, HQ2.out], bel_to HB.out HC.out⟩)
              | (go_roundw
                 case rel => exact ⟨2, by omega, by first | rfl | go_num, hp_below HL.out HC.out, hp_below HBB.out HC.out, bel_to HB.out HC.out, fun _ => HS.out.1 (by omega), by first | exact fun _ => ⟨HQ1.out, HQ2.out⟩ | simp, fun h => absurd h (by omega)⟩
                 case measure => (first | (simp [intOf]; done) | (simp [intOf]; omega)))
    · have HM := hide fun w => HM.out w o2
      have HH := hide fun w => HH.out w o2
      generalize hq1 : mt o2 b' = q1 at *
      generalize hq2 : hp o2 = q2 at *
      have HQ1 := hide hq1
      have HQ2 := hide hq2
      clear hq1 hq2
      go_wp2_with fail
      go_region_held3 (fun w' => w'.cell? ⟨w.heap.size + 1 + 1, 0, none⟩ = some (.int .u64 b) ∧ w'.cell? ⟨w.heap.size + 1 + 1, 1, none⟩ = some (.int .u64 o1) ∧ w'.cell? ⟨w.heap.size + 1 + 1, 2, none⟩ = some (.int .u64 o2) ∧ w'.cell? ⟨w.heap.size + 1, 0, none⟩ = some (.int .u64 c') ∧ w'.cell? ⟨w.heap.size + 1, 1, none⟩ = some (.int .u64 b') ∧ w'.cell? ⟨w.heap.size + 1, 2, none⟩ = some (.int .u64 p1) ∧ w'.cell? ⟨w.heap.size + 1, 3, none⟩ = some (.int .u64 p2)) (first | exact ⟨l0, l1, l2, c0, c1, c2, c3⟩ | exact HK.out _ HD.out)
        ((go_at_call 45; refine (HM.out _).mono ?_; rintro e w2 ⟨rfl, rfl⟩))
      all_goals
        (try simp only [Exit.then])
        obtain ⟨l0, l1, l2, c0, c1, c2, c3⟩ := HK.out _ HD.out
        go_wp2_with fail
        go_region_held3 (fun w' => w'.cell? ⟨w.heap.size + 1 + 1, 0, none⟩ = some (.int .u64 b) ∧ w'.cell? ⟨w.heap.size + 1 + 1, 1, none⟩ = some (.int .u64 o1) ∧ w'.cell? ⟨w.heap.size + 1 + 1, 2, none⟩ = some (.int .u64 o2) ∧ w'.cell? ⟨w.heap.size + 1, 0, none⟩ = some (.int .u64 c') ∧ w'.cell? ⟨w.heap.size + 1, 1, none⟩ = some (.int .u64 b') ∧ w'.cell? ⟨w.heap.size + 1, 2, none⟩ = some (.int .u64 p1) ∧ w'.cell? ⟨w.heap.size + 1, 3, none⟩ = some (.int .u64 p2)) (first | exact ⟨l0, l1, l2, c0, c1, c2, c3⟩ | exact HK.out _ HC.out | exact HK.out _ HD2.out | exact HK.out _ HD.out)
          ((go_at_call 46; refine (HH.out _).mono ?_; rintro e w3 ⟨rfl, X, h9⟩; have HC : Hid (Below wr.heap.size wr w3) := hide (by rw [h9]; exact bl1 HD2.out _); clear h9))
        all_goals
          (try simp only [Exit.then])
          cases q1 <;> cases q2
          all_goals
            go_wp2_with fail
            first
              | (go_ret; exact ⟨by simp [HQ1.out, HQ2.out], bel_to HB.out HC.out⟩)
              | (go_roundw
                 case rel => exact ⟨3, by omega, by first | rfl | go_num, hp_below HL.out HC.out, hp_below HBB.out HC.out, bel_to HB.out HC.out, fun _ => HS.out.1 (by omega), fun _ => HS.out.2.1 (by omega), by first | exact fun _ => ⟨HQ1.out, HQ2.out⟩ | simp⟩
                 case measure => (first | (simp [intOf]; done) | (simp [intOf]; omega)))
    · go_wp2_with fail
      go_ret
      obtain ⟨a1, a2⟩ := HS.out.1 (by omega)
      obtain ⟨a3, a4⟩ := HS.out.2.1 (by omega)
      obtain ⟨a5, a6⟩ := HS.out.2.2 (by omega)
      exact ⟨by simp [a1, a2, a3, a4, a5, a6], HB.out⟩
end Go.Proofs.Ytlmfdbimchhjjab
