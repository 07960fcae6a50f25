import Derived.Test.YtbkcenpohcjgnabDoorRefTimes
namespace Go.Proofs.YtbkcenpohcjgnabDoor
open Go.RowKit
open Num
set_option linter.unusedVariables false
set_option linter.unusedSimpArgs false

set_option maxHeartbeats 1000000 in
theorem at_any (v : Value) (l : List Nat) (i : Nat) (w : World) (h : DSl w v l) (hi : i ≤ 4096) :
    Calls Tryd.prog 56 #[v, .int .i64 (i : Int)] w fun e w' => e = .returned (.int .i64 (l.getD i 0 : Nat)) ∧ w' = w := by
  obtain ⟨g, cap, rfl, h1, h2, h3, h4⟩ := h
  by_cases hlt : i < l.length
  · have hc := h4 i hlt
    have hlI : (i : Int) < (l.length : Int) := by omega
    generalize l.getD i 0 = x at *
    clear h4
    go_enter Tryd.func56, Tryd.ntmps56
    go_wp2
    go_ret
    exact ⟨rfl, rfl⟩
  · have hz : l.getD i 0 = 0 := by simp [List.getD, List.getElem?_eq_none (Nat.le_of_not_lt hlt)]
    have hlI : ¬ (i : Int) < (l.length : Int) := by omega
    have HZ := hide hz
    clear h4 hz
    go_enter Tryd.func56, Tryd.ntmps56
    go_wp2
    go_ret
    exact ⟨rfl, rfl⟩

set_option maxRecDepth 100000 in
set_option maxHeartbeats 2000000 in
theorem above_any (va vb : Value) (a b : List Nat) (w : World) (ha : DSl w va a) (hb : DSl w vb b) (had : ∀ d ∈ a, d < 65536) (hbd : ∀ d ∈ b, d < 65536) :
    Calls Tryd.prog 50 #[va, vb] w fun e w' => e = .returned (.bool (decide (val b < val a))) ∧ w' = w := by
  have HA := hide ha
  have HB := hide hb
  have HAD := hide had
  have HBD := hide hbd
  obtain ⟨ga, ca, rfl, ha1, ha2, ha3, ha4⟩ := ha
  obtain ⟨gb, cb, rfl, hb1, hb2, hb3, hb4⟩ := hb
  clear ha4 hb4 had hbd
  obtain ⟨n, hn⟩ : ∃ n, max a.length b.length = n := ⟨_, rfl⟩
  have hn1 : a.length ≤ n := by omega
  have hn2 : b.length ≤ n := by omega
  have hn3 : n ≤ 4096 := by omega
  go_enter Tryd.func50, Tryd.ntmps50
  by_cases hab : a.length < b.length
  · have hnb : b.length = n := by omega
    go_wp2
    generalize decide (a.length < n) = d0
    clear hnb hn
    go_loopw [6] (fun iv wr => ∃ k : Nat, k ≤ n ∧ iv = .int .i64 ((k : Int) - 1) ∧ val (a.drop k) = val (b.drop k) ∧ wr = w) (fun iv _ => (intOf iv + 1).toNat)
    case atStart => exact ⟨n, Nat.le_refl _, rfl, by rw [List.drop_of_length_le hn1, List.drop_of_length_le hn2], rfl⟩
    case round =>
      obtain ⟨k, hk, rfl, hv, rfl⟩ := hrel
      by_cases hk0 : k = 0
      · subst hk0
        have hd : decide (val b < val a) = false := by simp at hv; simp [hv]
        have HD := hide hd
        clear hv hd
        go_wp2
        go_ret
        exact ⟨by rw [HD.out]; rfl, rfl⟩
      · obtain ⟨q, rfl⟩ : ∃ q, k = q + 1 := ⟨k - 1, by omega⟩
        rw [show ((q + 1 : Nat) : Int) - 1 = (q : Int) by omega]
        have CA := hide (at_any _ a q wr HA.out (by omega))
        have CB := hide (at_any _ b q wr HB.out (by omega))
        have HNX : Hid (a.getD q 0 = b.getD q 0 → val (a.drop q) = val (b.drop q)) := fun h => by rw [val_drop a q, val_drop b q, h, hv]
        have HGA : Hid (b.getD q 0 < a.getD q 0 → val b < val a) := fun h => val_gt HAD.out HBD.out hv h
        have HGB : Hid (a.getD q 0 < b.getD q 0 → val a < val b) := fun h => val_gt HBD.out HAD.out hv.symm h
        generalize a.getD q 0 = x at *
        generalize b.getD q 0 = y at *
        clear hv
        go_wp2_with fail
        refine CA.out.mono ?_
        rintro e w' ⟨rfl, rfl⟩
        go_wp2_with fail
        refine CB.out.mono ?_
        rintro e w' ⟨rfl, rfl⟩
        by_cases hxy : x = y
        · have HN := hide (HNX.out hxy)
          subst hxy
          go_wp2
          go_roundw
          case rel => exact ⟨q, by omega, rfl, HN.out, by trivial⟩
          case measure => simp [intOf]
        · by_cases hg : y < x
          · have HD : Hid (decide (val b < val a) = true) := decide_eq_true (HGA.out hg)
            have hgI : (y : Int) < (x : Int) := by omega
            have hneI : ¬ (x : Int) = (y : Int) := by omega
            go_wp2
            go_ret
            exact ⟨by rw [HD.out]; rfl, rfl⟩
          · have HD : Hid (decide (val b < val a) = false) := decide_eq_false (by have := HGB.out (by omega); omega)
            have hgI : ¬ (y : Int) < (x : Int) := by omega
            have hneI : ¬ (x : Int) = (y : Int) := by omega
            go_wp2
            go_ret
            exact ⟨by rw [HD.out]; rfl, rfl⟩
  · have hna : a.length = n := by omega
    go_wp2
    try generalize decide (n < b.length) = d0
    clear hna hn
    go_loopw [6] (fun iv wr => ∃ k : Nat, k ≤ n ∧ iv = .int .i64 ((k : Int) - 1) ∧ val (a.drop k) = val (b.drop k) ∧ wr = w) (fun iv _ => (intOf iv + 1).toNat)
    case atStart => exact ⟨n, Nat.le_refl _, rfl, by rw [List.drop_of_length_le hn1, List.drop_of_length_le hn2], rfl⟩
    case round =>
      obtain ⟨k, hk, rfl, hv, rfl⟩ := hrel
      by_cases hk0 : k = 0
      · subst hk0
        have hd : decide (val b < val a) = false := by simp at hv; simp [hv]
        have HD := hide hd
        clear hv hd
        go_wp2
        go_ret
        exact ⟨by rw [HD.out]; rfl, rfl⟩
      · obtain ⟨q, rfl⟩ : ∃ q, k = q + 1 := ⟨k - 1, by omega⟩
        rw [show ((q + 1 : Nat) : Int) - 1 = (q : Int) by omega]
        have CA := hide (at_any _ a q wr HA.out (by omega))
        have CB := hide (at_any _ b q wr HB.out (by omega))
        have HNX : Hid (a.getD q 0 = b.getD q 0 → val (a.drop q) = val (b.drop q)) := fun h => by rw [val_drop a q, val_drop b q, h, hv]
        have HGA : Hid (b.getD q 0 < a.getD q 0 → val b < val a) := fun h => val_gt HAD.out HBD.out hv h
        have HGB : Hid (a.getD q 0 < b.getD q 0 → val a < val b) := fun h => val_gt HBD.out HAD.out hv.symm h
        generalize a.getD q 0 = x at *
        generalize b.getD q 0 = y at *
        clear hv
        go_wp2_with fail
        refine CA.out.mono ?_
        rintro e w' ⟨rfl, rfl⟩
        go_wp2_with fail
        refine CB.out.mono ?_
        rintro e w' ⟨rfl, rfl⟩
        by_cases hxy : x = y
        · have HN := hide (HNX.out hxy)
          subst hxy
          go_wp2
          go_roundw
          case rel => exact ⟨q, by omega, rfl, HN.out, by trivial⟩
          case measure => simp [intOf]
        · by_cases hg : y < x
          · have HD : Hid (decide (val b < val a) = true) := decide_eq_true (HGA.out hg)
            have hgI : (y : Int) < (x : Int) := by omega
            have hneI : ¬ (x : Int) = (y : Int) := by omega
            go_wp2
            go_ret
            exact ⟨by rw [HD.out]; rfl, rfl⟩
          · have HD : Hid (decide (val b < val a) = false) := decide_eq_false (by have := HGB.out (by omega); omega)
            have hgI : ¬ (y : Int) < (x : Int) := by omega
            have hneI : ¬ (x : Int) = (y : Int) := by omega
            go_wp2
            go_ret
            exact ⟨by rw [HD.out]; rfl, rfl⟩
end Go.Proofs.YtbkcenpohcjgnabDoor
