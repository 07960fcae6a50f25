import Derived.Test.YtcdmkbjibcahcabTE2
namespace Go.Proofs.Ytcdmkbjibcahcab
open Go.RowKit
set_option linter.unusedVariables false
set_option linter.unusedSimpArgs false
set_option maxRecDepth 20000

theorem num_any (w : World) (x : Int) : Calls Try.prog 10 #[.int .i64 x] w fun e w' => e = .returned (.int .i64 x) ∧ w' = w := by
  go_enter Try.func10, Try.ntmps10
  go_wp2_with fail
  go_ret
  exact ⟨rfl, rfl⟩
def enV (x : En) : Value := .agg #[.int .i64 x.1, .int .i64 x.2.1, .int .i64 x.2.2]
set_option maxHeartbeats 1000000 in
theorem sameEntry_any (w : World) (x y : En) : Calls Try.prog 29 #[enV x, enV y] w fun e w' => e = .returned (.bool (decide (x = y))) ∧ Below w.heap.size w w' := by
  obtain ⟨x0, x1, x2⟩ := x
  obtain ⟨y0, y1, y2⟩ := y
  have hd : decide ((x0, x1, x2) = (y0, y1, y2)) = (x0 == y0 && (x1 == y1 && x2 == y2)) := by
    rw [Bool.eq_iff_iff]; simp
  rw [hd]
  unfold enV
  cases h1 : (x0 == y0) with
  | false =>
    go_enter Try.func29, Try.ntmps29
    go_wp2_with fail
    go_ret
    exact ⟨by simp, ((Below.refl _ w).alloc (Nat.le_refl _) _).alloc (by simp) _⟩
  | true =>
    cases h2 : (x1 == y1) with
    | false =>
      go_enter Try.func29, Try.ntmps29
      go_wp2_with fail
      go_ret
      exact ⟨by simp, ((Below.refl _ w).alloc (Nat.le_refl _) _).alloc (by simp) _⟩
    | true =>
      go_enter Try.func29, Try.ntmps29
      go_wp2_with fail
      go_ret
      exact ⟨by simp, ((Below.refl _ w).alloc (Nat.le_refl _) _).alloc (by simp) _⟩
set_option maxHeartbeats 1000000 in
theorem sameEntries_any (w : World) (u v : Value) (l k : List En) (hu : ERow w u l) (hv : ERow w v k) : Calls Try.prog 18 #[u, v] w fun e w' => e = .returned (.bool (decide (l = k))) ∧ Below w.heap.size w w' := by
  obtain ⟨a1, c1, rfl, b1, b2, hu3⟩ := hu.form
  obtain ⟨a2, c2, rfl, b3, b4, hv3⟩ := hv.form
  unfold maxLen at b2 b4
  by_cases hl : l.length = k.length
  · have HC : Hid (∀ x : World, Below w.heap.size w x → ∀ j, j < l.length → ∃ g o1 g' o2, a1 = some ⟨g, o1, none⟩ ∧ a2 = some ⟨g', o2, none⟩ ∧ (x.cell? ⟨g, o1 + j * 3, none⟩ = some (.int .i64 (l.getD j e0).1) ∧ x.cell? ⟨g, o1 + j * 3 + 1, none⟩ = some (.int .i64 (l.getD j e0).2.1) ∧ x.cell? ⟨g, o1 + j * 3 + 2, none⟩ = some (.int .i64 (l.getD j e0).2.2)) ∧ x.cell? ⟨g', o2 + j * 3, none⟩ = some (.int .i64 (k.getD j e0).1) ∧ x.cell? ⟨g', o2 + j * 3 + 1, none⟩ = some (.int .i64 (k.getD j e0).2.1) ∧ x.cell? ⟨g', o2 + j * 3 + 2, none⟩ = some (.int .i64 (k.getD j e0).2.2)) := hide fun x hb j hj => by
      obtain ⟨g, o1, e1, hlt, hc⟩ := hu3 j hj
      obtain ⟨g', o2, e2, hlt', hc'⟩ := hv3 j (by omega)
      refine ⟨g, o1, g', o2, e1, e2, ⟨?_, ?_, ?_⟩, ?_, ?_, ?_⟩
      · rw [World.cell?_of_block (hb.block g hlt)]; exact hc.1
      · rw [World.cell?_of_block (hb.block g hlt)]; exact hc.2.1
      · rw [World.cell?_of_block (hb.block g hlt)]; exact hc.2.2
      · rw [World.cell?_of_block (hb.block g' hlt')]; exact hc'.1
      · rw [World.cell?_of_block (hb.block g' hlt')]; exact hc'.2.1
      · rw [World.cell?_of_block (hb.block g' hlt')]; exact hc'.2.2
    have HE : Hid ((∀ j, j < l.length → l.getD j e0 = k.getD j e0) → decide (l = k) = true) := hide fun h => decide_eq_true (List.ext_getElem hl fun j h1 h2 => by
      have := h j h1
      simpa [List.getD, h1, h2] using this)
    have HNE : Hid (∀ j, j < l.length → l.getD j e0 ≠ k.getD j e0 → decide (l = k) = false) := hide fun j hj h => decide_eq_false fun e => h (by rw [e])
    have hne : (((l.length : Nat) : Int) != ((k.length : Nat) : Int)) = false := by rw [hl]; simp
    clear hu hv hu3 hv3
    rw [← hl] at *
    clear hl
    generalize l.length = n at *
    generalize decide (l = k) = R at *
    go_enter Try.func18, Try.ntmps18
    go_wp2_with fail
    go_loopw [5] (fun x wr => ∃ j : Nat, j ≤ n ∧ x = .int .i64 (j : Int) ∧ Below w.heap.size w wr ∧ ∀ i, i < j → l.getD i e0 = k.getD i e0) (fun x _ => n - (intOf x).toNat)
    case atStart => exact ⟨0, Nat.zero_le _, rfl, Below.refl _ _, fun i hi => by omega⟩
    case round =>
      obtain ⟨j, hj, rfl, hb, hz⟩ := hrel
      have HZ := hide hz
      have HB := hide hb
      clear hz
      by_cases hlt : j < n
      · obtain ⟨g, o1, g', o2, rfl, rfl, ⟨d0, d1, d2⟩, f0, f1, f2⟩ := HC.out _ hb j hlt
        have HSE := hide (sameEntry_any wr.drew (l.getD j e0) (k.getD j e0))
        unfold enV at HSE
        clear HC hb
        by_cases hxy : l.getD j e0 = k.getD j e0
        · have HN : Hid (∀ i, i < j + 1 → l.getD i e0 = k.getD i e0) := hide fun i hi => by
            by_cases e : i = j
            · rw [e]; exact hxy
            · exact HZ.out i (by omega)
          rw [decide_eq_true hxy] at HSE
          clear hxy HZ HE HNE
          generalize l.getD j e0 = x at *
          generalize k.getD j e0 = y at *
          obtain ⟨x0, x1, x2⟩ := x
          obtain ⟨y0, y1, y2⟩ := y
          go_wp2_with fail
          refine wp_still_tail 8 (by kernel_rfl) (by kernel_rfl) ?_
          simp only [List.take_succ_cons, List.take_zero, List.drop_succ_cons, List.drop_zero]
          repeat still_step
          refine wpStill_nil ?_
          go_wp2_with (go_at_call 29; refine HSE.out.mono ?_; rintro e w1 ⟨rfl, q⟩; have HB1 := hide (HB.out.trans ((show Below wr.heap.size wr w1 from ⟨q.os, q.tape, q.output, q.size, q.block⟩).mono HB.out.size)); clear q)
          go_roundw
          case rel => exact ⟨j + 1, by omega, by go_num, HB1.out, HN.out⟩
          case measure => simp [intOf]; omega
        · have hF := HNE.out j hlt hxy
          subst hF
          rw [decide_eq_false hxy] at HSE
          clear hxy HZ HE HNE
          generalize l.getD j e0 = x at *
          generalize k.getD j e0 = y at *
          obtain ⟨x0, x1, x2⟩ := x
          obtain ⟨y0, y1, y2⟩ := y
          go_wp2_with fail
          refine wp_still_tail 8 (by kernel_rfl) (by kernel_rfl) ?_
          simp only [List.take_succ_cons, List.take_zero, List.drop_succ_cons, List.drop_zero]
          repeat still_step
          refine wpStill_nil ?_
          go_wp2_with (go_at_call 29; refine HSE.out.mono ?_; rintro e w1 ⟨rfl, q⟩; have HB1 := hide (HB.out.trans ((show Below wr.heap.size wr w1 from ⟨q.os, q.tape, q.output, q.size, q.block⟩).mono HB.out.size)); clear q)
          go_ret
          exact ⟨rfl, HB1.out⟩
      · have ej : j = n := by omega
        subst ej
        have hT := HE.out HZ.out
        subst hT
        clear HC HE HNE HZ hb
        go_wp2_with fail
        go_ret
        exact ⟨rfl, HB.out⟩
  · have hF : decide (l = k) = false := decide_eq_false fun e => hl (by rw [e])
    have hne : (((l.length : Nat) : Int) != ((k.length : Nat) : Int)) = true := by simp; omega
    rw [hF]
    clear hu hv hu3 hv3 hF hl
    generalize l.length = n at *
    generalize k.length = m at *
    go_enter Try.func18, Try.ntmps18
    go_wp2_with fail
    go_ret
    exact ⟨rfl, Below.refl _ _⟩
end Go.Proofs.Ytcdmkbjibcahcab
