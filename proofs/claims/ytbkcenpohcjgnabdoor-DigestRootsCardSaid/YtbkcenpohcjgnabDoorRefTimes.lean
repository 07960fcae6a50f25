import Derived.Test.YtbkcenpohcjgnabDoorRootMath
import Derived.Test.YtbkcenpohcjgnabDoorUpTo
import Derived.Test.YtbkcenpohcjgnabDoorShaSum
import Derived.StillTailTactics
namespace Go.Proofs.YtbkcenpohcjgnabDoor
open Go.RowKit
open Num
set_option linter.unusedVariables false
set_option linter.unusedSimpArgs false

def intV (n : Nat) : Value := .int .i64 (n : Int)
/-- a slice of digits -/
def DSl (w : World) (v : Value) (l : List Nat) : Prop :=
  ∃ g cap, v = .slice (some ⟨g, 0, none⟩) l.length cap ∧ l.length ≤ cap ∧ (cap ≤ maxLen ∧ l.length ≤ 4096) ∧ g < w.heap.size ∧ ∀ i, i < l.length → w.cell? ⟨g, i, none⟩ = some (.int .i64 (l.getD i 0 : Nat))
theorem DSl.below {w w' : World} {v : Value} {l : List Nat} (h : DSl w v l) (hb : Below w.heap.size w w') : DSl w' v l := by
  obtain ⟨g, cap, rfl, h1, h2, h3, h4⟩ := h
  exact ⟨g, cap, rfl, h1, h2, Nat.lt_of_lt_of_le h3 hb.size, fun i hi => by rw [hb.cell (p := ⟨g, i, none⟩) h3]; exact h4 i hi⟩
theorem map_intV_getD {l : List Nat} {i : Nat} (hi : i < l.length) : (l.map intV)[i]? = some (.int .i64 (l.getD i 0 : Nat)) := by
  simp [List.getD, hi, intV]
theorem DSl.ofRow {w : World} {g cap : Nat} {l : List Nat} {t : TypeId} {fr : Nat × Nat} (h : w.heap[g]? = some (.cells (l.map intV).toArray t fr)) (h1 : l.length ≤ cap) (h2 : cap ≤ 4096) : DSl w (.slice (some ⟨g, 0, none⟩) l.length cap) l :=
  ⟨g, cap, rfl, h1, ⟨by unfold maxLen; omega, by omega⟩, (Array.getElem?_eq_some_iff.1 h).1, fun i hi => by rw [cell_of_row _ _ _ _ _ _ h, List.getElem?_toArray, map_intV_getD hi]⟩
theorem Tryd.info3 : (Tryd.prog.info? 3).map (fun i => (i.zero, i.size, i.bytes)) = some (some (.int .i64 0), 1, 8) := by kernel_rfl
theorem made_zeros (n : Nat) : madeCells #[Value.int .i64 0] n = ((List.replicate n 0).map intV).toArray := by
  rw [List.map_replicate]
  apply Array.toList_inj.1
  rw [toList_madeCells_one]; rfl

/-- the product's own row -/
def TRow (w wr : World) (cs : List Nat) : Prop := wr.heap[w.heap.size]? = some (.cells (cs.map intV).toArray 3 (0, 0)) ∧ Below w.heap.size w wr
theorem TRow.set {w wr : World} {cs : List Nat} (h : TRow w wr cs) (n k x : Nat) : TRow w ((wr.drewN n).setCell ⟨w.heap.size, k, none⟩ (.int .i64 (x : Int))) (cs.set k x) := by
  refine ⟨?_, (below_drewN h.2 n).setCell (Nat.le_refl _) _⟩
  rw [List.map_set, ← List.setIfInBounds_toArray]
  exact Go.heap_setCell_same (wr.drewN n) _ k _ 3 _ h.1

set_option maxRecDepth 100000 in
set_option maxHeartbeats 4000000 in
theorem times_any (va vb : Value) (a b : List Nat) (w : World) (ha : DSl w va a) (hb : DSl w vb b) (hal : a.length ≤ 16) (hbl : b.length ≤ 16) (had : ∀ d ∈ a, d < 65536) (hbd : ∀ d ∈ b, d < 65536) :
    Calls Tryd.prog 58 #[va, vb] w fun e w' => ∃ v' c, e = .returned v' ∧ DSl w' v' c ∧ c.length = a.length + b.length ∧ (∀ d ∈ c, d < 65536) ∧ val c = val a * val b ∧ Below w.heap.size w w' := by
  have hmk := run_make_row' (P := Tryd.prog) 23 3 (.int .i64 0) 8 Tryd.underlying23 Tryd.info3 rfl .i64 .i64 (a.length + b.length) (by omega) (by omega)
  rw [made_zeros] at hmk
  simp only [Int.natCast_add] at hmk
  obtain ⟨Z, hZ⟩ : ∃ Z, ((List.replicate (a.length + b.length) 0).map intV).toArray = Z := ⟨_, rfl⟩
  rw [hZ] at hmk
  have HZ := hide hZ
  clear hZ
  obtain ⟨ga, ca, rfl, ha1, ha2, ha3, ha4⟩ := ha
  obtain ⟨gb, cb, rfl, hb1, hb2, hb3, hb4⟩ := hb
  have HA := hide ha4
  have HB := hide hb4
  clear ha4 hb4
  go_enter Tryd.func58, Tryd.ntmps58
  go_wp2
  clear hmk
  have HNV := hide (show val (List.replicate (a.length + b.length) 0) = 0 from val_zeros _)
  have HR0 := hide (Go.heap_alloc_new w (.cells Z 3))
  have HB0 := hide (below_alloc w (.cells Z 3))
  generalize w.alloc (.cells Z 3) = W at *
  go_loopw [6] (fun iv wr => ∃ (i : Nat) (cs : List Nat), i ≤ a.length ∧ iv = .int .i64 i ∧ cs.length = a.length + b.length ∧ (∀ d ∈ cs, d < 65536) ∧ (∀ n, i + b.length ≤ n → cs.getD n 0 = 0) ∧ val cs = val (a.take i) * val b ∧ TRow w wr cs) (fun iv _ => a.length - (intOf iv).toNat)
  case atStart => exact ⟨0, List.replicate (a.length + b.length) 0, Nat.zero_le _, rfl, by simp, by intro d hd; rw [List.eq_of_mem_replicate hd]; decide, by intro n _; simp [List.getD, List.getElem?_replicate]; split <;> rfl, by rw [HNV.out]; simp [val], by rw [HZ.out]; exact HR0.out, HB0.out⟩
  case round =>
    clear HNV HR0 HB0
    obtain ⟨i, cs, hi, rfl, hcl, hcd, hcz, hcv, hrow⟩ := hrel
    by_cases hlt : i < a.length
    · have hai : a.getD i 0 < 65536 := had _ (mem_getD hlt)
      have HCL := hide hcl
      have HCD := hide hcd
      have HCZ := hide hcz
      have HCV := hide hcv
      have HRW := hide hrow
      clear hcl hcd hcz hcv hrow
      go_wp2
      go_loopw [7, 8] (fun cv jv wr => ∃ (j cy : Nat) (cs : List Nat), j ≤ b.length ∧ jv = .int .i64 j ∧ cy < 65536 ∧ cv = .int .i64 cy ∧ cs.length = a.length + b.length ∧ (∀ d ∈ cs, d < 65536) ∧ (∀ n, i + b.length ≤ n → cs.getD n 0 = 0) ∧
        val cs + cy * 65536 ^ (i + j) = val (a.take i) * val b + a.getD i 0 * val (b.take j) * 65536 ^ i ∧ TRow w wr cs) (fun _ jv _ => b.length - (intOf jv).toNat)
      case atStart => exact ⟨0, 0, cs, Nat.zero_le _, rfl, by omega, rfl, HCL.out, HCD.out, HCZ.out, by rw [HCV.out]; simp [val], HRW.out⟩
      case round =>
        clear HCL HCD HCZ HCV HRW
        obtain ⟨j, cy, cs, hj, rfl, hcy, rfl, hcl, hcd, hcz, hcv, hrow⟩ := hrel
        by_cases hltj : j < b.length
        · have hbj : b.getD j 0 < 65536 := hbd _ (mem_getD hltj)
          have hcij : cs.getD (i + j) 0 < 65536 := hcd _ (mem_getD (by omega))
          have hbx := digit_bd hcij hai hbj hcy
          obtain ⟨x, hx⟩ : ∃ x, cs.getD (i + j) 0 + a.getD i 0 * b.getD j 0 + cy = x := ⟨_, rfl⟩
          have HST := hide (times_step (by omega) hltj hx hcv)
          have hc1 : wr.cell? ⟨w.heap.size, i + j, none⟩ = some (.int .i64 (cs.getD (i + j) 0 : Nat)) := by rw [cell_of_row _ _ _ _ _ _ hrow.1, List.getElem?_toArray, map_intV_getD (by omega)]
          have hc2 : wr.cell? ⟨ga, i, none⟩ = some (.int .i64 (a.getD i 0 : Nat)) := by rw [hrow.2.cell (p := ⟨ga, i, none⟩) ha3]; exact HA.out i hlt
          have hc3 : wr.cell? ⟨gb, j, none⟩ = some (.int .i64 (b.getD j 0 : Nat)) := by rw [hrow.2.cell (p := ⟨gb, j, none⟩) hb3]; exact HB.out j hltj
          have hfz : wr.frozen? ⟨w.heap.size, i + j, none⟩ = false := frozen_of_row _ _ _ _ 3 hrow.1
          have HSR := hide (fun n => hrow.set n (i + j) (x % 65536))
          have HCD : Hid (∀ d ∈ cs.set (i + j) (x % 65536), d < 65536) := by
            intro d hd
            rcases List.mem_or_eq_of_mem_set hd with h | h
            · exact hcd d h
            · omega
          have HCZ : Hid (∀ n, i + b.length ≤ n → (cs.set (i + j) (x % 65536)).getD n 0 = 0) := by
            intro n hn
            rw [show (cs.set (i + j) (x % 65536)).getD n 0 = cs.getD n 0 by simp only [List.getD]; rw [List.getElem?_set_ne (by omega)]]
            exact hcz n hn
          have HCL : Hid ((cs.set (i + j) (x % 65536)).length = a.length + b.length) := by show _ = _; rw [List.length_set]; exact hcl
          obtain ⟨m, hm⟩ : ∃ m, a.getD i 0 * b.getD j 0 = m := ⟨_, rfl⟩
          rw [hm] at hx hbx
          have hmI : ((a.getD i 0 : Nat) : Int) * ((b.getD j 0 : Nat) : Int) = (m : Int) := by rw [← hm]; simp
          have hmb : m < 4294967296 := by omega
          generalize cs.getD (i + j) 0 = x1 at *
          generalize a.getD i 0 = x2 at *
          generalize b.getD j 0 = x3 at *
          have hxI : (x1 : Int) + (m : Int) + (cy : Int) = (x : Int) := by omega
          have hxb : x < 4294967296 := by omega
          obtain ⟨n, hn⟩ : ∃ n, i + j = n := ⟨_, rfl⟩
          obtain ⟨y, hy⟩ : ∃ y, x1 + m = y := ⟨_, rfl⟩
          rw [hn] at hc1 hfz HSR HST HCD HCZ HCL
          have hij : IntKind.i64.wrap ((i : Int) + (j : Int)) = (n : Int) := by rw [wrap_i64 (by omega) (by omega)]; omega
          have HIJ : Hid ((i : Int) + (j : Int) = (n : Int)) := by show _ = _; omega
          have hw1 : IntKind.i64.wrap ((x2 : Int) * (x3 : Int)) = (m : Int) := by rw [hmI, wrap_i64 (by omega) (by omega)]
          have hw2 : IntKind.i64.wrap ((x1 : Int) + (m : Int)) = (y : Int) := by rw [wrap_i64 (by omega) (by omega)]; omega
          have hw3 : IntKind.i64.wrap ((y : Int) + (cy : Int)) = (x : Int) := by rw [wrap_i64 (by omega) (by omega)]; omega
          have hl1 : (n : Int) < (a.length : Int) + (b.length : Int) := by omega
          have hl2 : (i : Int) < (a.length : Int) := by omega
          have hl3 : (j : Int) < (b.length : Int) := by omega
          obtain ⟨r1, hr1⟩ : ∃ r, x % 65536 = r := ⟨_, rfl⟩
          obtain ⟨q1, hq1⟩ : ∃ r, x / 65536 = r := ⟨_, rfl⟩
          rw [hr1] at HST HSR HCD HCZ HCL
          rw [hq1] at HST
          have hr2 : (x : Int) % 65536 = (r1 : Int) := by omega
          have hq2 : (x : Int) / 65536 = (q1 : Int) := by omega
          have hq3 : q1 < 65536 := by omega
          have hlc : n < a.length + b.length := by omega
          have HN := hide hn
          clear hcl hcd hcz hcv hrow hm hx hr1 hq1 hbx hn hy hmI hxI
          go_wp2
          refine wp_still_tail 18 (by kernel_rfl) (by kernel_rfl) ?_
          simp only [List.take_succ_cons, List.take_zero, List.drop_succ_cons, List.drop_zero]
          repeat still_step
          refine wpStill_nil ?_
          have hijp := HIJ.out
          clear hij hw1 hw2 hw3
          go_wp2
          go_roundw
          case rel => exact ⟨j + 1, q1, cs.set n r1, by omega, by go_num, hq3, rfl, HCL.out, HCD.out, HCZ.out, by have := HST.out; rw [← Nat.add_assoc] at this ⊢; exact this, HSR.out 1⟩
          case measure => simp [intOf]; omega
        · have hjb : j = b.length := by omega
          subst hjb
          have hcij : cs.getD (i + b.length) 0 = 0 := hcz _ (Nat.le_refl _)
          have HST := hide (times_row hlt (by omega) hcij hcv)
          rw [hcij, Nat.zero_add] at HST
          have hc1 : wr.cell? ⟨w.heap.size, i + b.length, none⟩ = some (.int .i64 0) := by
            have h := cell_of_row wr w.heap.size (i + b.length) _ 3 (0, 0) hrow.1
            rw [List.getElem?_toArray, map_intV_getD (by omega), hcij] at h
            exact h
          have hfz : wr.frozen? ⟨w.heap.size, i + b.length, none⟩ = false := frozen_of_row _ _ _ _ 3 hrow.1
          have HSR := hide (fun n => hrow.set n (i + b.length) cy)
          have HCD : Hid (∀ d ∈ cs.set (i + b.length) cy, d < 65536) := by
            intro d hd
            rcases List.mem_or_eq_of_mem_set hd with h | h
            · exact hcd d h
            · omega
          have HCZ : Hid (∀ n, (i + 1) + b.length ≤ n → (cs.set (i + b.length) cy).getD n 0 = 0) := by
            intro n hn
            rw [show (cs.set (i + b.length) cy).getD n 0 = cs.getD n 0 by simp only [List.getD]; rw [List.getElem?_set_ne (by omega)]]
            exact hcz n (by omega)
          have HCL : Hid ((cs.set (i + b.length) cy).length = a.length + b.length) := by show _ = _; rw [List.length_set]; exact hcl
          obtain ⟨n, hn⟩ : ∃ n, i + b.length = n := ⟨_, rfl⟩
          rw [hn] at hc1 hfz HSR HST HCD HCZ HCL
          have hij : IntKind.i64.wrap ((i : Int) + (b.length : Int)) = (n : Int) := by rw [wrap_i64 (by omega) (by omega)]; omega
          have hw2 : IntKind.i64.wrap (0 + (cy : Int)) = (cy : Int) := by rw [wrap_i64 (by omega) (by omega)]; omega
          have hw3 : IntKind.i64.wrap (cy : Int) = (cy : Int) := by rw [wrap_i64 (by omega) (by omega)]
          have hl1 : (n : Int) < (a.length : Int) + (b.length : Int) := by omega
          have hlc : n < a.length + b.length := by omega
          clear hcl hcd hcz hcv hrow hn hcij hltj hj
          go_wp2
          go_roundw
          case rel => exact ⟨i + 1, cs.set n cy, by omega, by go_num, HCL.out, HCD.out, HCZ.out, HST.out, HSR.out 0⟩
          case measure => simp [intOf]; omega
    · have hia : i = a.length := by omega
      subst hia
      rw [List.take_of_length_le (Nat.le_refl _)] at hcv
      have HD := hide (DSl.ofRow (cap := a.length + b.length) hrow.1 (by omega) (by omega))
      rw [hcl] at HD
      have HBL := hide hrow.2
      clear hrow hlt hi hcz
      go_wp2
      go_ret
      exact ⟨_, cs, rfl, HD.out, hcl, hcd, hcv, HBL.out⟩
end Go.Proofs.YtbkcenpohcjgnabDoor
