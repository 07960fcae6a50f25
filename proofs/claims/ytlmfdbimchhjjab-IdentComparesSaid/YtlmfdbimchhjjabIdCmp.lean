import Derived.Test.YtlmfdbimchhjjabIdCmp0
import Derived.Laws.EntriesVeiled
namespace Go.Proofs.Ytlmfdbimchhjjab
open Go.RowKit
set_option linter.unusedVariables false
set_option linter.unusedSimpArgs false
set_option maxRecDepth 20000

/-- what stands while the rules are looked through -/
structure CI (w wr : World) (gp : Nat) (row : Array Value) (P : Pr) (j : Nat) : Prop where
  hp : wr.heap[gp]? = some (.cells row 52 (0, 0))
  hv : ∃ a b : Value, wr.heap[w.heap.size + 1 + 1 + 1 + 1 + 1 + 1 + 1 + 1]? = some (.cells #[a, b] 27 (0, 0))
  hr : wr.heap[w.heap.size + 1 + 1 + 1 + 1 + 1 + 1 + 1 + 1 + 1]? = some (.cells ruleRow 57 (0, 0))
  hs : wr.heap[w.heap.size + 1 + 1]? = some (.cells #[.int .i64 0, .int .i64 0] 27 (0, 0))
  bel : Below w.heap.size w wr
  no : ∀ i, i < j → P.fnd i = false
theorem set2o {w : World} {g k : Nat} {o : Obj} (h : w.heap[k]? = some o) (hk : k ≠ g) (a b : Value) : ((w.setCell ⟨g, 0, none⟩ a).setCell ⟨g, 1, none⟩ b).heap[k]? = some o := by
  rw [Go.heap_setCell_other _ _ _ _ hk, Go.heap_setCell_other _ _ _ _ hk]
  exact h
theorem hp_at {W : World} {O : Obj} {g : Nat} (h : g = W.heap.size) : (W.alloc O).heap[g]? = some O := by rw [h]; exact Go.heap_alloc_new _ _
theorem ruleFn_is (j : Nat) : ∃ f : Nat, ruleFn j = .func (.func f) #[] #[] := by
  unfold ruleFn
  split <;> exact ⟨_, rfl⟩
theorem CI.next {w wr w2 : World} {gp : Nat} {row : Array Value} {P : Pr} {j : Nat} (h : CI w wr gp row P j) (hgp : w.heap.size ≤ gp ∧ gp ≠ w.heap.size + 1 + 1 + 1 + 1 + 1 + 1 + 1 + 1) (X : Obj) (hb : Below (wr.alloc X).heap.size (wr.alloc X) w2) (hf : P.fnd j = false) (a b : Value) : CI w ((w2.setCell ⟨w.heap.size + 1 + 1 + 1 + 1 + 1 + 1 + 1 + 1, 0, none⟩ a).setCell ⟨w.heap.size + 1 + 1 + 1 + 1 + 1 + 1 + 1 + 1, 1, none⟩ b) gp row P (j + 1) := by
  obtain ⟨a1, b1, hv⟩ := h.hv
  refine ⟨set2o (hp_below (hp_alloc h.hp X) hb) hgp.2 _ _, ⟨_, _, set2 (hp_below (hp_alloc hv X) hb) _ _⟩, set2o (hp_below (hp_alloc h.hr X) hb) (by omega) _ _, set2o (hp_below (hp_alloc h.hs X) hb) (by omega) _ _, bel_set2 (bel_to (bl1 h.bel X) hb) (by omega) _ _, fun i hi => ?_⟩
  by_cases e : i = j
  · rw [e]; exact hf
  · exact h.no i (by omega)
theorem hp_drew {W : World} {g : Nat} {o : Obj} (h : W.heap[g]? = some o) : W.drew.heap[g]? = some o := h
set_option maxHeartbeats 2000000 in
theorem compare_any (w : World) (n : Int) (g h : Gn) (fo fp : Int) : Calls Try.prog 6 #[.int .i64 n, g.val, .int .u32 fo, h.val, .int .u32 fp] w fun e w' => e = .returned (vd (Pr.mk g (bits BinOp.and IntKind.u32 fo 8 != 0) h (bits BinOp.and IntKind.u32 fp 8 != 0) (n == 0)).cmp.1 (Pr.mk g (bits BinOp.and IntKind.u32 fo 8 != 0) h (bits BinOp.and IntKind.u32 fp 8 != 0) (n == 0)).cmp.2) ∧ Below w.heap.size w w' := by
  have H1 := hide fun w => newSide_any w g fo
  have H2 := hide fun w => newSide_any w h fp
  have H3 := hide rules_any
  obtain ⟨c, b, o1, o2⟩ := g
  obtain ⟨c', b', p1, p2⟩ := h
  unfold Gn.val sideV at *
  dsimp only at *
  generalize (bits BinOp.and IntKind.u32 fo 8 != 0) = x at *
  generalize (bits BinOp.and IntKind.u32 fp 8 != 0) = y at *
  obtain ⟨P, hP⟩ : ∃ P : Pr, P = ⟨⟨c, b, o1, o2⟩, x, ⟨c', b', p1, p2⟩, y, n == 0⟩ := ⟨_, rfl⟩
  rw [← hP]
  have HV : Hid (∀ j : Nat, j < 14 → ∀ w, Calls Try.prog 15 #[.agg #[.int .i64 ((j : Int) + 1), ruleFn j, .int .i64 (ruleKind j)], .agg #[.int .u64 c, .int .u64 b, .int .u64 o1, .int .u64 o2, .bool x, .int .u64 c', .int .u64 b', .int .u64 p1, .int .u64 p2, .bool y, .bool (n == 0)]] w fun e w' => e = .returned (vdt (P.ask j) (P.tu.ask j) ((j : Int) + 1) (ruleKind j)) ∧ Below w.heap.size w w') := hide fun j hj w => by
    rw [hP]
    exact vdt_all w ⟨⟨c, b, o1, o2⟩, x, ⟨c', b', p1, p2⟩, y, n == 0⟩ j hj
  have HCA := hide fun j : Nat => cmp_at P j
  generalize hK1 : P.cmp = CC at *
  clear hK1 hP
  unfold vd
  have HA : Hid ((((w.alloc (.cells #[.int .u64 c, .int .u64 b, .int .u64 o1, .int .u64 o2] 24)).alloc (.cells #[.int .u64 c', .int .u64 b', .int .u64 p1, .int .u64 p2] 24)).alloc (.cells #[.int .i64 0, .int .i64 0] 27)).heap[w.heap.size]? = some (.cells #[.int .u64 c, .int .u64 b, .int .u64 o1, .int .u64 o2] 24)) := hide (hp_alloc2 (hp_new w _) _ _)
  have HC : Hid ((((w.alloc (.cells #[.int .u64 c, .int .u64 b, .int .u64 o1, .int .u64 o2] 24)).alloc (.cells #[.int .u64 c', .int .u64 b', .int .u64 p1, .int .u64 p2] 24)).alloc (.cells #[.int .i64 0, .int .i64 0] 27)).heap[w.heap.size + 1]? = some (.cells #[.int .u64 c', .int .u64 b', .int .u64 p1, .int .u64 p2] 24)) := hide (hp_alloc (heap_snd _ _ _) _)
  have HK : Hid (∀ w' : World, w'.heap[w.heap.size]? = some (.cells #[.int .u64 c, .int .u64 b, .int .u64 o1, .int .u64 o2] 24) → w'.heap[w.heap.size + 1]? = some (.cells #[.int .u64 c', .int .u64 b', .int .u64 p1, .int .u64 p2] 24) → (w'.cell? ⟨w.heap.size, 0, none⟩ = some (.int .u64 c) ∧ w'.cell? ⟨w.heap.size, 1, none⟩ = some (.int .u64 b) ∧ w'.cell? ⟨w.heap.size, 2, none⟩ = some (.int .u64 o1) ∧ w'.cell? ⟨w.heap.size, 3, none⟩ = some (.int .u64 o2) ∧ w'.cell? ⟨w.heap.size + 1, 0, none⟩ = some (.int .u64 c') ∧ w'.cell? ⟨w.heap.size + 1, 1, none⟩ = some (.int .u64 b') ∧ w'.cell? ⟨w.heap.size + 1, 2, none⟩ = some (.int .u64 p1) ∧ w'.cell? ⟨w.heap.size + 1, 3, none⟩ = some (.int .u64 p2))) := hide fun w' e1 e2 => ⟨cell_of_row _ _ _ _ _ _ e1, cell_of_row _ _ _ _ _ _ e1, cell_of_row _ _ _ _ _ _ e1, cell_of_row _ _ _ _ _ _ e1, cell_of_row _ _ _ _ _ _ e2, cell_of_row _ _ _ _ _ _ e2, cell_of_row _ _ _ _ _ _ e2, cell_of_row _ _ _ _ _ _ e2⟩
  obtain ⟨a0, a1, a2, a3, b0, b1, b2, b3⟩ := HK.out _ HA.out HC.out
  go_enter Try.func6, Try.ntmps6
  go_wp2_with fail
  go_region_held3 (fun w' => w'.cell? ⟨w.heap.size, 0, none⟩ = some (.int .u64 c) ∧ w'.cell? ⟨w.heap.size, 1, none⟩ = some (.int .u64 b) ∧ w'.cell? ⟨w.heap.size, 2, none⟩ = some (.int .u64 o1) ∧ w'.cell? ⟨w.heap.size, 3, none⟩ = some (.int .u64 o2) ∧ w'.cell? ⟨w.heap.size + 1, 0, none⟩ = some (.int .u64 c') ∧ w'.cell? ⟨w.heap.size + 1, 1, none⟩ = some (.int .u64 b') ∧ w'.cell? ⟨w.heap.size + 1, 2, none⟩ = some (.int .u64 p1) ∧ w'.cell? ⟨w.heap.size + 1, 3, none⟩ = some (.int .u64 p2)) (first | exact ⟨a0, a1, a2, a3, b0, b1, b2, b3⟩ | exact HK.out _ (by repeat (first | with_reducible exact HA.out | with_reducible refine hp_drew ?_ | with_reducible refine hp_alloc ?_ _)) (by repeat (first | with_reducible exact HC.out | with_reducible refine hp_drew ?_ | with_reducible refine hp_alloc ?_ _)))
    (first
      | (go_at_call 13; (with_reducible refine (H1.out _).mono ?_); rintro e w2 ⟨rfl, A1, A2, rfl⟩; clear H1)
      | (go_at_call 13; (with_reducible refine (H2.out _).mono ?_); rintro e w2 ⟨rfl, B1, B2, rfl⟩))
  · (try simp only [Exit.then])
    clear HK a0 a1 a2 a3 b0 b1 b2 b3 HA HC
    go_wp2_with ((go_at_call 14; refine (H3.out _).mono ?_; rintro e w2 ⟨rfl, rfl⟩))
    go_loopw [27] (fun i wr => ∃ j : Nat, j ≤ 14 ∧ i = .int .i64 j ∧ CI w wr (w.heap.size + 1 + 1 + 1 + 1 + 1 + 1 + 1) #[.int .u64 c, .int .u64 b, .int .u64 o1, .int .u64 o2, .bool x, .int .u64 c', .int .u64 b', .int .u64 p1, .int .u64 p2, .bool y, .bool (n == 0)] P j) (fun i _ => 14 - (intOf i).toNat)
    case atStart =>
      exact ⟨0, by omega, rfl, by (try with_reducible refine hp_drew ?_); (with_reducible refine hp_alloc ?_ _); (try with_reducible refine hp_drew ?_); (with_reducible refine hp_alloc ?_ _); (try with_reducible refine hp_drew ?_); exact hp_at (by simp), ⟨.int .i64 0, .int .i64 0, by (try with_reducible refine hp_drew ?_); (with_reducible refine hp_alloc ?_ _); (try with_reducible refine hp_drew ?_); exact hp_at (by simp)⟩, by (try with_reducible refine hp_drew ?_); exact hp_at (by simp), by (try with_reducible refine hp_drew ?_); (with_reducible refine hp_alloc ?_ _); (try with_reducible refine hp_drew ?_); (with_reducible refine hp_alloc ?_ _); (try with_reducible refine hp_drew ?_); (with_reducible refine hp_alloc ?_ _); (try with_reducible refine hp_drew ?_); (with_reducible refine hp_alloc ?_ _); (try with_reducible refine hp_drew ?_); (with_reducible refine hp_alloc ?_ _); (try with_reducible refine hp_drew ?_); (with_reducible refine hp_alloc ?_ _); (try with_reducible refine hp_drew ?_); (with_reducible refine hp_alloc ?_ _); (try with_reducible refine hp_drew ?_); exact hp_at (by simp), by repeat (first | with_reducible exact Below.refl _ _ | with_reducible refine Below.drew ?_ | with_reducible refine bl1 ?_ _), fun i hi => absurd hi (by omega)⟩
    case round =>
      obtain ⟨j, hj, rfl, hci⟩ := hrel
      have HCI := hide hci
      clear hci
      by_cases hlt : j < 14
      case neg => exact absurd (HCI.out.no 13 (by omega)) (by simp [Pr.fnd, Pr.ask])
      obtain ⟨r0, r1, r2⟩ := ruleRow_get j hlt
      have c0 : wr.cell? ⟨w.heap.size + 1 + 1 + 1 + 1 + 1 + 1 + 1 + 1 + 1, j * 3, none⟩ = some (.int .i64 ((j : Int) + 1)) := by rw [cell_of_row _ _ _ _ _ _ HCI.out.hr, r0]
      have c1 : wr.cell? ⟨w.heap.size + 1 + 1 + 1 + 1 + 1 + 1 + 1 + 1 + 1, j * 3 + 1, none⟩ = some (ruleFn j) := by rw [cell_of_row _ _ _ _ _ _ HCI.out.hr, r1]
      have c2 : wr.cell? ⟨w.heap.size + 1 + 1 + 1 + 1 + 1 + 1 + 1 + 1 + 1, j * 3 + 2, none⟩ = some (.int .i64 (ruleKind j)) := by rw [cell_of_row _ _ _ _ _ _ HCI.out.hr, r2]
      have HVJ := hide (HV.out j hlt)
      have HCAJ := hide (HCA.out j hlt HCI.out.no)
      have HFJ : Hid (P.fnd j = (P.ask j || P.tu.ask j)) := hide rfl
      clear r0 r1 r2
      obtain ⟨fv, hfv⟩ := ruleFn_is j
      rw [hfv] at c1 HVJ
      clear hfv
      generalize ruleKind j = kd at *
      generalize hq1 : P.ask j = q1 at *
      generalize hq2 : P.tu.ask j = q2 at *
      clear hq1 hq2
      obtain ⟨nm, hnm⟩ : ∃ nm : Int, nm = (j : Int) + 1 := ⟨_, rfl⟩
      rw [← hnm] at c0 HVJ HCAJ
      clear hnm
      obtain ⟨d0, d1, d2, d3, d4, d5, d6, d7, d8, d9, d10, dx⟩ := hp_cells11 HCI.out.hp
      obtain ⟨va, vb, hv⟩ := HCI.out.hv
      have HVV := hide hv
      clear hv
      obtain ⟨mk, hmk⟩ : ∃ mk : Int, mk = mirK kd := ⟨_, rfl⟩
      rw [← hmk] at HCAJ
      have HMK := hide hmk
      clear hmk
      cases q1
      case true =>
        rw [show vdt true q2 nm kd = .tuple #[.agg #[.int .i64 kd, .int .i64 nm], .bool true] from rfl] at HVJ
        go_wp2_with ((go_at_call 15; refine (HVJ.out _).mono ?_; rintro e w2 ⟨rfl, hb⟩; have HB := hide hb; have HV2 := hide (hp_below (hp_alloc HVV.out _) hb); have HS2 := hide (hp_below (hp_alloc HCI.out.hs _) hb); obtain ⟨v0, v1, vx⟩ := hp_cells2 HV2.out; obtain ⟨s0, s1, sx⟩ := hp_cells2 HS2.out; have f0 := frozen_of_row _ _ 0 _ _ HV2.out; have f1 := frozen_of_row _ _ 1 _ _ HV2.out; have f2 := frozen_of_row _ _ 0 _ _ HS2.out; have f3 := frozen_of_row _ _ 1 _ _ HS2.out; clear hb))
        exact bodyPost_ret (results_cell_row rfl _ _ (w.heap.size + 1 + 1) 27 _ (0, 0) _ rfl (set2 (set2o HS2.out (by omega) _ _) _ _) Try.underlying27 rfl (by kernel_rfl)) rfl ⟨by rw [HCAJ.out (by rw [HFJ.out]; rfl)]; rfl, bel_set2 (bel_set2 (bel_to (bl1 HCI.out.bel _) HB.out) (by omega) _ _) (by omega) _ _⟩
      cases q2
      case true =>
        rw [show vdt false true nm kd = .tuple #[.agg #[.int .i64 mk, .int .i64 nm], .bool true] by rw [HMK.out]; rfl] at HVJ
        go_wp2_with ((go_at_call 15; refine (HVJ.out _).mono ?_; rintro e w2 ⟨rfl, hb⟩; have HB := hide hb; have HV2 := hide (hp_below (hp_alloc HVV.out _) hb); have HS2 := hide (hp_below (hp_alloc HCI.out.hs _) hb); obtain ⟨v0, v1, vx⟩ := hp_cells2 HV2.out; obtain ⟨s0, s1, sx⟩ := hp_cells2 HS2.out; have f0 := frozen_of_row _ _ 0 _ _ HV2.out; have f1 := frozen_of_row _ _ 1 _ _ HV2.out; have f2 := frozen_of_row _ _ 0 _ _ HS2.out; have f3 := frozen_of_row _ _ 1 _ _ HS2.out; clear hb))
        exact bodyPost_ret (results_cell_row rfl _ _ (w.heap.size + 1 + 1) 27 _ (0, 0) _ rfl (set2 (set2o HS2.out (by omega) _ _) _ _) Try.underlying27 rfl (by kernel_rfl)) rfl ⟨by rw [HCAJ.out (by rw [HFJ.out]; rfl)]; rfl, bel_set2 (bel_set2 (bel_to (bl1 HCI.out.bel _) HB.out) (by omega) _ _) (by omega) _ _⟩
      rw [show vdt false false nm kd = .tuple #[.agg #[.int .i64 0, .int .i64 0], .bool false] from rfl] at HVJ
      go_wp2_with ((go_at_call 15; refine (HVJ.out _).mono ?_; rintro e w2 ⟨rfl, hb⟩; have HB := hide hb; have HV2 := hide (hp_below (hp_alloc HVV.out _) hb); have HS2 := hide (hp_below (hp_alloc HCI.out.hs _) hb); obtain ⟨v0, v1, vx⟩ := hp_cells2 HV2.out; obtain ⟨s0, s1, sx⟩ := hp_cells2 HS2.out; have f0 := frozen_of_row _ _ 0 _ _ HV2.out; have f1 := frozen_of_row _ _ 1 _ _ HV2.out; have f2 := frozen_of_row _ _ 0 _ _ HS2.out; have f3 := frozen_of_row _ _ 1 _ _ HS2.out; clear hb))
      go_roundw
      case rel => exact ⟨j + 1, by omega, by go_num, CI.next HCI.out (by omega) _ HB.out (by rw [HFJ.out]; rfl) _ _⟩
      case measure => simp [intOf]; omega
  · (try simp only [Exit.then])
    clear HK a0 a1 a2 a3 b0 b1 b2 b3 HA HC
    go_wp2_with ((go_at_call 14; refine (H3.out _).mono ?_; rintro e w2 ⟨rfl, rfl⟩))
    go_loopw [27] (fun i wr => ∃ j : Nat, j ≤ 14 ∧ i = .int .i64 j ∧ CI w wr (w.heap.size + 1 + 1 + 1 + 1 + 1) #[.int .u64 c, .int .u64 b, .int .u64 o1, .int .u64 o2, .bool x, .int .u64 c', .int .u64 b', .int .u64 p1, .int .u64 p2, .bool y, .bool (n == 0)] P j) (fun i _ => 14 - (intOf i).toNat)
    case atStart =>
      exact ⟨0, by omega, rfl, by (try with_reducible refine hp_drew ?_); (with_reducible refine hp_alloc ?_ _); (try with_reducible refine hp_drew ?_); (with_reducible refine hp_alloc ?_ _); (try with_reducible refine hp_drew ?_); (with_reducible refine hp_alloc ?_ _); (try with_reducible refine hp_drew ?_); (with_reducible refine hp_alloc ?_ _); (try with_reducible refine hp_drew ?_); exact hp_at (by simp), ⟨.int .i64 0, .int .i64 0, by (try with_reducible refine hp_drew ?_); (with_reducible refine hp_alloc ?_ _); (try with_reducible refine hp_drew ?_); exact hp_at (by simp)⟩, by (try with_reducible refine hp_drew ?_); exact hp_at (by simp), by (try with_reducible refine hp_drew ?_); (with_reducible refine hp_alloc ?_ _); (try with_reducible refine hp_drew ?_); (with_reducible refine hp_alloc ?_ _); (try with_reducible refine hp_drew ?_); (with_reducible refine hp_alloc ?_ _); (try with_reducible refine hp_drew ?_); (with_reducible refine hp_alloc ?_ _); (try with_reducible refine hp_drew ?_); (with_reducible refine hp_alloc ?_ _); (try with_reducible refine hp_drew ?_); (with_reducible refine hp_alloc ?_ _); (try with_reducible refine hp_drew ?_); (with_reducible refine hp_alloc ?_ _); (try with_reducible refine hp_drew ?_); exact hp_at (by simp), by repeat (first | with_reducible exact Below.refl _ _ | with_reducible refine Below.drew ?_ | with_reducible refine bl1 ?_ _), fun i hi => absurd hi (by omega)⟩
    case round =>
      obtain ⟨j, hj, rfl, hci⟩ := hrel
      have HCI := hide hci
      clear hci
      by_cases hlt : j < 14
      case neg => exact absurd (HCI.out.no 13 (by omega)) (by simp [Pr.fnd, Pr.ask])
      obtain ⟨r0, r1, r2⟩ := ruleRow_get j hlt
      have c0 : wr.cell? ⟨w.heap.size + 1 + 1 + 1 + 1 + 1 + 1 + 1 + 1 + 1, j * 3, none⟩ = some (.int .i64 ((j : Int) + 1)) := by rw [cell_of_row _ _ _ _ _ _ HCI.out.hr, r0]
      have c1 : wr.cell? ⟨w.heap.size + 1 + 1 + 1 + 1 + 1 + 1 + 1 + 1 + 1, j * 3 + 1, none⟩ = some (ruleFn j) := by rw [cell_of_row _ _ _ _ _ _ HCI.out.hr, r1]
      have c2 : wr.cell? ⟨w.heap.size + 1 + 1 + 1 + 1 + 1 + 1 + 1 + 1 + 1, j * 3 + 2, none⟩ = some (.int .i64 (ruleKind j)) := by rw [cell_of_row _ _ _ _ _ _ HCI.out.hr, r2]
      have HVJ := hide (HV.out j hlt)
      have HCAJ := hide (HCA.out j hlt HCI.out.no)
      have HFJ : Hid (P.fnd j = (P.ask j || P.tu.ask j)) := hide rfl
      clear r0 r1 r2
      obtain ⟨fv, hfv⟩ := ruleFn_is j
      rw [hfv] at c1 HVJ
      clear hfv
      generalize ruleKind j = kd at *
      generalize hq1 : P.ask j = q1 at *
      generalize hq2 : P.tu.ask j = q2 at *
      clear hq1 hq2
      obtain ⟨nm, hnm⟩ : ∃ nm : Int, nm = (j : Int) + 1 := ⟨_, rfl⟩
      rw [← hnm] at c0 HVJ HCAJ
      clear hnm
      obtain ⟨d0, d1, d2, d3, d4, d5, d6, d7, d8, d9, d10, dx⟩ := hp_cells11 HCI.out.hp
      obtain ⟨va, vb, hv⟩ := HCI.out.hv
      have HVV := hide hv
      clear hv
      obtain ⟨mk, hmk⟩ : ∃ mk : Int, mk = mirK kd := ⟨_, rfl⟩
      rw [← hmk] at HCAJ
      have HMK := hide hmk
      clear hmk
      cases q1
      case true =>
        rw [show vdt true q2 nm kd = .tuple #[.agg #[.int .i64 kd, .int .i64 nm], .bool true] from rfl] at HVJ
        go_wp2_with ((go_at_call 15; refine (HVJ.out _).mono ?_; rintro e w2 ⟨rfl, hb⟩; have HB := hide hb; have HV2 := hide (hp_below (hp_alloc HVV.out _) hb); have HS2 := hide (hp_below (hp_alloc HCI.out.hs _) hb); obtain ⟨v0, v1, vx⟩ := hp_cells2 HV2.out; obtain ⟨s0, s1, sx⟩ := hp_cells2 HS2.out; have f0 := frozen_of_row _ _ 0 _ _ HV2.out; have f1 := frozen_of_row _ _ 1 _ _ HV2.out; have f2 := frozen_of_row _ _ 0 _ _ HS2.out; have f3 := frozen_of_row _ _ 1 _ _ HS2.out; clear hb))
        exact bodyPost_ret (results_cell_row rfl _ _ (w.heap.size + 1 + 1) 27 _ (0, 0) _ rfl (set2 (set2o HS2.out (by omega) _ _) _ _) Try.underlying27 rfl (by kernel_rfl)) rfl ⟨by rw [HCAJ.out (by rw [HFJ.out]; rfl)]; rfl, bel_set2 (bel_set2 (bel_to (bl1 HCI.out.bel _) HB.out) (by omega) _ _) (by omega) _ _⟩
      cases q2
      case true =>
        rw [show vdt false true nm kd = .tuple #[.agg #[.int .i64 mk, .int .i64 nm], .bool true] by rw [HMK.out]; rfl] at HVJ
        go_wp2_with ((go_at_call 15; refine (HVJ.out _).mono ?_; rintro e w2 ⟨rfl, hb⟩; have HB := hide hb; have HV2 := hide (hp_below (hp_alloc HVV.out _) hb); have HS2 := hide (hp_below (hp_alloc HCI.out.hs _) hb); obtain ⟨v0, v1, vx⟩ := hp_cells2 HV2.out; obtain ⟨s0, s1, sx⟩ := hp_cells2 HS2.out; have f0 := frozen_of_row _ _ 0 _ _ HV2.out; have f1 := frozen_of_row _ _ 1 _ _ HV2.out; have f2 := frozen_of_row _ _ 0 _ _ HS2.out; have f3 := frozen_of_row _ _ 1 _ _ HS2.out; clear hb))
        exact bodyPost_ret (results_cell_row rfl _ _ (w.heap.size + 1 + 1) 27 _ (0, 0) _ rfl (set2 (set2o HS2.out (by omega) _ _) _ _) Try.underlying27 rfl (by kernel_rfl)) rfl ⟨by rw [HCAJ.out (by rw [HFJ.out]; rfl)]; rfl, bel_set2 (bel_set2 (bel_to (bl1 HCI.out.bel _) HB.out) (by omega) _ _) (by omega) _ _⟩
      rw [show vdt false false nm kd = .tuple #[.agg #[.int .i64 0, .int .i64 0], .bool false] from rfl] at HVJ
      go_wp2_with ((go_at_call 15; refine (HVJ.out _).mono ?_; rintro e w2 ⟨rfl, hb⟩; have HB := hide hb; have HV2 := hide (hp_below (hp_alloc HVV.out _) hb); have HS2 := hide (hp_below (hp_alloc HCI.out.hs _) hb); obtain ⟨v0, v1, vx⟩ := hp_cells2 HV2.out; obtain ⟨s0, s1, sx⟩ := hp_cells2 HS2.out; have f0 := frozen_of_row _ _ 0 _ _ HV2.out; have f1 := frozen_of_row _ _ 1 _ _ HV2.out; have f2 := frozen_of_row _ _ 0 _ _ HS2.out; have f3 := frozen_of_row _ _ 1 _ _ HS2.out; clear hb))
      go_roundw
      case rel => exact ⟨j + 1, by omega, by go_num, CI.next HCI.out (by omega) _ HB.out (by rw [HFJ.out]; rfl) _ _⟩
      case measure => simp [intOf]; omega
  · (try simp only [Exit.then])
    clear HK a0 a1 a2 a3 b0 b1 b2 b3 HA HC
    go_wp2_with ((go_at_call 14; refine (H3.out _).mono ?_; rintro e w2 ⟨rfl, rfl⟩))
    go_loopw [27] (fun i wr => ∃ j : Nat, j ≤ 14 ∧ i = .int .i64 j ∧ CI w wr (w.heap.size + 1 + 1 + 1) #[.int .u64 c, .int .u64 b, .int .u64 o1, .int .u64 o2, .bool x, .int .u64 c', .int .u64 b', .int .u64 p1, .int .u64 p2, .bool y, .bool (n == 0)] P j) (fun i _ => 14 - (intOf i).toNat)
    case atStart =>
      exact ⟨0, by omega, rfl, by (try with_reducible refine hp_drew ?_); (with_reducible refine hp_alloc ?_ _); (try with_reducible refine hp_drew ?_); (with_reducible refine hp_alloc ?_ _); (try with_reducible refine hp_drew ?_); (with_reducible refine hp_alloc ?_ _); (try with_reducible refine hp_drew ?_); (with_reducible refine hp_alloc ?_ _); (try with_reducible refine hp_drew ?_); (with_reducible refine hp_alloc ?_ _); (try with_reducible refine hp_drew ?_); (with_reducible refine hp_alloc ?_ _); (try with_reducible refine hp_drew ?_); exact hp_at (by simp), ⟨.int .i64 0, .int .i64 0, by (try with_reducible refine hp_drew ?_); (with_reducible refine hp_alloc ?_ _); (try with_reducible refine hp_drew ?_); exact hp_at (by simp)⟩, by (try with_reducible refine hp_drew ?_); exact hp_at (by simp), by (try with_reducible refine hp_drew ?_); (with_reducible refine hp_alloc ?_ _); (try with_reducible refine hp_drew ?_); (with_reducible refine hp_alloc ?_ _); (try with_reducible refine hp_drew ?_); (with_reducible refine hp_alloc ?_ _); (try with_reducible refine hp_drew ?_); (with_reducible refine hp_alloc ?_ _); (try with_reducible refine hp_drew ?_); (with_reducible refine hp_alloc ?_ _); (try with_reducible refine hp_drew ?_); (with_reducible refine hp_alloc ?_ _); (try with_reducible refine hp_drew ?_); (with_reducible refine hp_alloc ?_ _); (try with_reducible refine hp_drew ?_); exact hp_at (by simp), by repeat (first | with_reducible exact Below.refl _ _ | with_reducible refine Below.drew ?_ | with_reducible refine bl1 ?_ _), fun i hi => absurd hi (by omega)⟩
    case round =>
      obtain ⟨j, hj, rfl, hci⟩ := hrel
      have HCI := hide hci
      clear hci
      by_cases hlt : j < 14
      case neg => exact absurd (HCI.out.no 13 (by omega)) (by simp [Pr.fnd, Pr.ask])
      obtain ⟨r0, r1, r2⟩ := ruleRow_get j hlt
      have c0 : wr.cell? ⟨w.heap.size + 1 + 1 + 1 + 1 + 1 + 1 + 1 + 1 + 1, j * 3, none⟩ = some (.int .i64 ((j : Int) + 1)) := by rw [cell_of_row _ _ _ _ _ _ HCI.out.hr, r0]
      have c1 : wr.cell? ⟨w.heap.size + 1 + 1 + 1 + 1 + 1 + 1 + 1 + 1 + 1, j * 3 + 1, none⟩ = some (ruleFn j) := by rw [cell_of_row _ _ _ _ _ _ HCI.out.hr, r1]
      have c2 : wr.cell? ⟨w.heap.size + 1 + 1 + 1 + 1 + 1 + 1 + 1 + 1 + 1, j * 3 + 2, none⟩ = some (.int .i64 (ruleKind j)) := by rw [cell_of_row _ _ _ _ _ _ HCI.out.hr, r2]
      have HVJ := hide (HV.out j hlt)
      have HCAJ := hide (HCA.out j hlt HCI.out.no)
      have HFJ : Hid (P.fnd j = (P.ask j || P.tu.ask j)) := hide rfl
      clear r0 r1 r2
      obtain ⟨fv, hfv⟩ := ruleFn_is j
      rw [hfv] at c1 HVJ
      clear hfv
      generalize ruleKind j = kd at *
      generalize hq1 : P.ask j = q1 at *
      generalize hq2 : P.tu.ask j = q2 at *
      clear hq1 hq2
      obtain ⟨nm, hnm⟩ : ∃ nm : Int, nm = (j : Int) + 1 := ⟨_, rfl⟩
      rw [← hnm] at c0 HVJ HCAJ
      clear hnm
      obtain ⟨d0, d1, d2, d3, d4, d5, d6, d7, d8, d9, d10, dx⟩ := hp_cells11 HCI.out.hp
      obtain ⟨va, vb, hv⟩ := HCI.out.hv
      have HVV := hide hv
      clear hv
      obtain ⟨mk, hmk⟩ : ∃ mk : Int, mk = mirK kd := ⟨_, rfl⟩
      rw [← hmk] at HCAJ
      have HMK := hide hmk
      clear hmk
      cases q1
      case true =>
        rw [show vdt true q2 nm kd = .tuple #[.agg #[.int .i64 kd, .int .i64 nm], .bool true] from rfl] at HVJ
        go_wp2_with ((go_at_call 15; refine (HVJ.out _).mono ?_; rintro e w2 ⟨rfl, hb⟩; have HB := hide hb; have HV2 := hide (hp_below (hp_alloc HVV.out _) hb); have HS2 := hide (hp_below (hp_alloc HCI.out.hs _) hb); obtain ⟨v0, v1, vx⟩ := hp_cells2 HV2.out; obtain ⟨s0, s1, sx⟩ := hp_cells2 HS2.out; have f0 := frozen_of_row _ _ 0 _ _ HV2.out; have f1 := frozen_of_row _ _ 1 _ _ HV2.out; have f2 := frozen_of_row _ _ 0 _ _ HS2.out; have f3 := frozen_of_row _ _ 1 _ _ HS2.out; clear hb))
        exact bodyPost_ret (results_cell_row rfl _ _ (w.heap.size + 1 + 1) 27 _ (0, 0) _ rfl (set2 (set2o HS2.out (by omega) _ _) _ _) Try.underlying27 rfl (by kernel_rfl)) rfl ⟨by rw [HCAJ.out (by rw [HFJ.out]; rfl)]; rfl, bel_set2 (bel_set2 (bel_to (bl1 HCI.out.bel _) HB.out) (by omega) _ _) (by omega) _ _⟩
      cases q2
      case true =>
        rw [show vdt false true nm kd = .tuple #[.agg #[.int .i64 mk, .int .i64 nm], .bool true] by rw [HMK.out]; rfl] at HVJ
        go_wp2_with ((go_at_call 15; refine (HVJ.out _).mono ?_; rintro e w2 ⟨rfl, hb⟩; have HB := hide hb; have HV2 := hide (hp_below (hp_alloc HVV.out _) hb); have HS2 := hide (hp_below (hp_alloc HCI.out.hs _) hb); obtain ⟨v0, v1, vx⟩ := hp_cells2 HV2.out; obtain ⟨s0, s1, sx⟩ := hp_cells2 HS2.out; have f0 := frozen_of_row _ _ 0 _ _ HV2.out; have f1 := frozen_of_row _ _ 1 _ _ HV2.out; have f2 := frozen_of_row _ _ 0 _ _ HS2.out; have f3 := frozen_of_row _ _ 1 _ _ HS2.out; clear hb))
        exact bodyPost_ret (results_cell_row rfl _ _ (w.heap.size + 1 + 1) 27 _ (0, 0) _ rfl (set2 (set2o HS2.out (by omega) _ _) _ _) Try.underlying27 rfl (by kernel_rfl)) rfl ⟨by rw [HCAJ.out (by rw [HFJ.out]; rfl)]; rfl, bel_set2 (bel_set2 (bel_to (bl1 HCI.out.bel _) HB.out) (by omega) _ _) (by omega) _ _⟩
      rw [show vdt false false nm kd = .tuple #[.agg #[.int .i64 0, .int .i64 0], .bool false] from rfl] at HVJ
      go_wp2_with ((go_at_call 15; refine (HVJ.out _).mono ?_; rintro e w2 ⟨rfl, hb⟩; have HB := hide hb; have HV2 := hide (hp_below (hp_alloc HVV.out _) hb); have HS2 := hide (hp_below (hp_alloc HCI.out.hs _) hb); obtain ⟨v0, v1, vx⟩ := hp_cells2 HV2.out; obtain ⟨s0, s1, sx⟩ := hp_cells2 HS2.out; have f0 := frozen_of_row _ _ 0 _ _ HV2.out; have f1 := frozen_of_row _ _ 1 _ _ HV2.out; have f2 := frozen_of_row _ _ 0 _ _ HS2.out; have f3 := frozen_of_row _ _ 1 _ _ HS2.out; clear hb))
      go_roundw
      case rel => exact ⟨j + 1, by omega, by go_num, CI.next HCI.out (by omega) _ HB.out (by rw [HFJ.out]; rfl) _ _⟩
      case measure => simp [intOf]; omega
end Go.Proofs.Ytlmfdbimchhjjab
