import Derived.Test.YtijfnacplikibabKPb
import Derived.Test.YtijfnacplikibabKSn
namespace Go.Proofs.Ytijfnacplikibab
open Go.RowKit
set_option linter.unusedVariables false
set_option linter.unusedSimpArgs false
set_option maxRecDepth 20000

theorem below_alloc (w : World) (o : Obj) : Below w.heap.size w (w.alloc o) := (Below.refl _ _).alloc (Nat.le_refl _) o
theorem goesP_no {P : List Pc} {e m : Int} {k : Nat} (hk : k < P.length) (h : bar1 e m (P.getD k p0) = true) : goesP P e m = false := by
  unfold goesP
  rw [List.all_eq_false]
  refine ⟨P[k], List.getElem_mem hk, ?_⟩
  have : P.getD k p0 = P[k] := by simp [List.getD, hk]
  rw [← this, h]
  simp
theorem goesP_yes {P : List Pc} {e m : Int} (h : ∀ j, j < P.length → bar1 e m (P.getD j p0) = false) : goesP P e m = true := by
  unfold goesP
  rw [List.all_eq_true]
  intro x hx
  obtain ⟨j, hj, rfl⟩ := List.mem_iff_getElem.1 hx
  have := h j hj
  have e1 : P.getD j p0 = P[j] := by simp [List.getD, hj]
  rw [e1] at this
  simp [this]
set_option maxHeartbeats 2000000 in
theorem rgoes_any {w : World} {q : Nat} {v : Value} {n room : Nat} {P : List Pc} {T : Nat} (h : RT w q v n room P T) (hl : P.length ≤ 10000000) (e m : Int) : Calls Try.prog 35 #[.pointer (some ⟨q, 0, none⟩), .int .i64 e, .int .i64 m] w fun e' w' => e' = .returned (.bool (goesP P e m)) ∧ Below w.heap.size w w' := by
  obtain ⟨a, c, ev, b1, b2, -⟩ := h.own.form
  subst ev
  unfold maxLen at b2
  have HC : Hid (∀ x, Below w.heap.size w x → x.cell? ⟨q, 2, none⟩ = some (.slice a P.length c) ∧ ∀ j, j < P.length → ∃ g, a = some ⟨g, 0, none⟩ ∧ pcAt x g j (P.getD j p0)) := hide fun x hb => by
    have hx := h.below hb
    refine ⟨hx.c2, fun j hj => ?_⟩
    obtain ⟨a', c', e', -, -, hq⟩ := hx.own.form
    simp only [Value.slice.injEq, true_and] at e'
    obtain ⟨rfl, rfl⟩ := e'
    exact hq j hj
  have HY := hide fun (k : Nat) (hk : k < P.length) hx => goesP_no (P := P) (e := e) (m := m) hk hx
  have HX := hide (goesP_yes (P := P) (e := e) (m := m))
  obtain ⟨c2, -⟩ := HC.out w (Below.refl _ _)
  clear h
  generalize goesP P e m = R at *
  generalize P.length = N at *
  go_enter Try.func35, Try.ntmps35
  go_wp2_with fail
  go_loopw [7] (fun y wr => ∃ k : Nat, k ≤ N ∧ y = .int .i64 (k : Int) ∧ Hid (∀ j, j < k → bar1 e m (P.getD j p0) = false) ∧ Hid (Below w.heap.size w wr)) (fun y _ => N - (intOf y).toNat)
  case atStart => exact ⟨0, Nat.zero_le _, rfl, hide fun j hj => by omega, hide (Below.refl _ _)⟩
  case round =>
    clear c2
    obtain ⟨k, hk, rfl, HP, HB⟩ := hrel
    obtain ⟨c2, hq⟩ := HC.out _ HB.out
    by_cases hlt : k < N
    · obtain ⟨g, rfl, d0, d1, d2, d3, d4⟩ := hq k hlt
      have hli : (k : Int) < (N : Int) := by omega
      have HN : Hid (bar1 e m (P.getD k p0) = false → ∀ j, j < k + 1 → bar1 e m (P.getD j p0) = false) := hide fun hx j hj => by
        by_cases e : j = k
        · rw [e]; exact hx
        · exact HP.out j (by omega)
      have HYk := hide (HY.out k hlt)
      have HB2 : Hid (∀ o, Below w.heap.size w (wr.alloc o)) := hide fun o => HB.out.trans ((below_alloc wr o).mono HB.out.size)
      clear HY HX HP HC hq
      by_cases h1 : (P.getD k p0).ext = e
      · have h1e : ((P.getD k p0).ext == e) = true := by simpa using h1
        by_cases h2 : (P.getD k p0).held = true
        · by_cases h3 : (P.getD k p0).mode = 2
          · have h3e : ((P.getD k p0).mode == 2) = true := by simpa using h3
            have hR := HYk.out (by unfold bar1; rw [h1e, h2, h3e]; rfl)
            subst hR
            rw [h2] at d3
            clear HYk HN h1 h2 h3
            generalize P.getD k p0 = z at *
            go_wp2_with fail
            go_ret
            exact ⟨rfl, HB2.out _⟩
          · have h3e : ((P.getD k p0).mode == 2) = false := by simpa using h3
            by_cases h4 : m = 2
            · have h4e : (m == 2) = true := by simpa using h4
              have hR := HYk.out (by unfold bar1; rw [h1e, h2, h3e, h4e]; rfl)
              subst hR
              rw [h2] at d3
              clear HYk HN h1 h2 h3
              generalize P.getD k p0 = z at *
              go_wp2_with fail
              go_ret
              exact ⟨rfl, HB2.out _⟩
            · have h4e : (m == 2) = false := by simpa using h4
              have HN2 := hide (HN.out (by unfold bar1; rw [h1e, h2, h3e, h4e]; rfl))
              rw [h2] at d3
              clear HYk HN h1 h2 h3
              generalize hz : P.getD k p0 = z at *
              go_wp2_with fail
              go_roundw
              case rel => exact ⟨k + 1, by omega, by go_num, HN2, hide (HB2.out _)⟩
              case measure => simp [intOf]; omega
        · have h2e : (P.getD k p0).held = false := by simpa using h2
          have HN2 := hide (HN.out (by unfold bar1; rw [h1e, h2e]; rfl))
          rw [h2e] at d3
          clear HYk HN h1 h2
          generalize hz : P.getD k p0 = z at *
          go_wp2_with fail
          go_roundw
          case rel => exact ⟨k + 1, by omega, by go_num, HN2, hide (HB2.out _)⟩
          case measure => simp [intOf]; omega
      · have h1e : ((P.getD k p0).ext == e) = false := by simpa using h1
        have HN2 := hide (HN.out (by unfold bar1; rw [h1e]; rfl))
        clear HYk HN h1
        generalize hz : P.getD k p0 = z at *
        go_wp2_with fail
        go_roundw
        case rel => exact ⟨k + 1, by omega, by go_num, HN2, hide (HB2.out _)⟩
        case measure => simp [intOf]; omega
    · have ek : k = N := by omega
      subst ek
      have hli : ¬ (k : Int) < (k : Int) := by omega
      have hR := HX.out HP.out
      subst hR
      clear HC hq HY HX HP
      go_wp2_with fail
      go_ret
      exact ⟨rfl, HB.out⟩
theorem wtN_step (P : List Pc) {k : Nat} (hk : k < P.length) : wtN (P.take (k + 1)) = if (P.getD k p0).held = false then wtN (P.take k) + 1 else wtN (P.take k) := by
  have e : P.take (k + 1) = P.take k ++ [P.getD k p0] := by
    rw [List.take_add_one]
    simp [List.getD, hk]
  unfold wtN
  rw [e, List.countP_append]
  cases hh : (P.getD k p0).held with
  | true => rw [if_neg (by simp), List.countP_cons, List.countP_nil, if_neg (by rw [hh]; simp)]; rfl
  | false => rw [if_pos rfl, List.countP_cons, List.countP_nil, if_pos (by rw [hh]; simp)]
theorem wtN_le (P : List Pc) : wtN P ≤ P.length := List.countP_le_length
set_option maxHeartbeats 2000000 in
theorem rwaiting_any {w : World} {q : Nat} {v : Value} {n room : Nat} {P : List Pc} {T : Nat} (h : RT w q v n room P T) (hl : P.length ≤ 10000000) : Calls Try.prog 30 #[.pointer (some ⟨q, 0, none⟩)] w fun e' w' => e' = .returned (.int .i64 (wtN P : Int)) ∧ w' = w := by
  obtain ⟨a, c, rfl, b1, b2, hc⟩ := h.own.form
  unfold maxLen at b2
  have c2 := h.c2
  have HC := hide hc
  have HS := hide fun (k : Nat) (hk : k < P.length) => wtN_step P hk
  have HL := hide fun k => wtN_le (P.take k)
  have HT : Hid (wtN (P.take P.length) = wtN P) := hide (by rw [List.take_length])
  have HZ : Hid (wtN (P.take 0) = 0) := hide rfl
  clear h hc
  obtain ⟨F, hF⟩ : ∃ F : Nat → Nat, ∀ k, F k = wtN (P.take k) := ⟨_, fun _ => rfl⟩
  have HB : Hid (∀ k, F k ≤ 10000000) := hide fun k => by
    have := HL.out k
    rw [hF]
    rw [List.length_take] at this
    omega
  simp only [← hF] at HS HT HZ
  rw [← HT.out]
  clear hF HL HT
  generalize P.length = N at *
  go_enter Try.func30, Try.ntmps30
  go_wp2_with fail
  go_loopw [3, 4] (fun x y wr => ∃ k : Nat, k ≤ N ∧ y = .int .i64 (k : Int) ∧ x = .int .i64 (F k : Int) ∧ wr = w) (fun _ y _ => N - (intOf y).toNat)
  case atStart => exact ⟨0, Nat.zero_le _, rfl, by rw [HZ.out]; rfl, rfl⟩
  case round =>
    obtain ⟨k, hk, rfl, rfl, hwr⟩ := hrel
    have hwr2 := hwr.symm
    clear hwr
    subst hwr2
    have hb := HB.out k
    by_cases hlt : k < N
    · obtain ⟨g, rfl, d0, d1, d2, d3, d4⟩ := HC.out k hlt
      have hs := HS.out k hlt
      have hli : (k : Int) < (N : Int) := by omega
      clear HC HS d0 d1 d2 d4
      by_cases hx : (P.getD k p0).held = false
      · rw [if_pos hx] at hs
        rw [hx] at d3
        have HN := hide hs
        clear hs hx
        go_wp2_with fail
        go_roundw
        case rel => exact ⟨k + 1, by omega, by go_num, by rw [HN.out]; go_num, trivial⟩
        case measure => simp [intOf]; omega
      · rw [if_neg hx] at hs
        have hx2 : (P.getD k p0).held = true := by simpa using hx
        rw [hx2] at d3
        have HN := hide hs
        clear hs hx hx2
        go_wp2_with fail
        go_roundw
        case rel => exact ⟨k + 1, by omega, by go_num, by rw [HN.out], trivial⟩
        case measure => simp [intOf]; omega
    · have ek : k = N := by omega
      subst ek
      have hli : ¬ (k : Int) < (k : Int) := by omega
      go_wp2_with fail
      go_ret
      exact ⟨rfl, rfl⟩
end Go.Proofs.Ytijfnacplikibab
