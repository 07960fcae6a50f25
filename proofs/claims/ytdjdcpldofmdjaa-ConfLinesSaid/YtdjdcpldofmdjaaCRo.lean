import Derived.Test.YtdjdcpldofmdjaaCRp
namespace Go.Proofs.Ytdjdcpldofmdjaa
open Go.RowKit
set_option linter.unusedVariables false
set_option linter.unusedSimpArgs false
set_option maxRecDepth 20000

theorem emp_eq (s : ByteArray) : s.toList.isEmpty = decide (s.size = 0) := by
  rw [ByteArray.toList_eq, Bool.eq_iff_iff]
  simp only [decide_eq_true_eq, List.isEmpty_iff]
  rw [← tx_len, List.length_eq_zero_iff]
set_option maxHeartbeats 1000000 in
theorem one_text {w : World} (t s : ByteArray) (i : Nat) (al : Option Addr) (n c : Nat) (b : Bool) (ht : t.size ≤ maxLen) (hs : s.size ≤ 1000) (hs0 : s.size ≠ 0) (hi : i ≤ t.size) :
    Calls Try.prog 21 #[.string t, .int .i64 (i : Int), .agg #[.string s, .slice al n c, .bool b]] w fun e w' => e = .returned (.tuple #[.int .i64 (cp ((tx t).drop i) (tx s) : Nat), .bool (decide (cp ((tx t).drop i) (tx s) = s.size)), .int .i64 0]) ∧ Below w.heap.size w w' := by
  have HC := hide fun W => common_any t s i W ht (by unfold maxLen; omega) hi
  have hz : s.toList.isEmpty = false := by rw [emp_eq]; simpa using hs0
  generalize cp ((tx t).drop i) (tx s) = m at *
  have hd : ((m : Int) == (s.size : Int)) = decide (m = s.size) := by rw [Bool.eq_iff_iff]; simp; omega
  have HD := hide hd
  clear hd
  have HB0 : Hid (∀ q, Below w.heap.size w ((w.alloc (.cells #[.string s, .slice al n c, .bool b] 56)).drewN q)) := hide fun q => ((Below.refl _ _).alloc (Nat.le_refl _) _).trans ((drewN_bel _ q).mono (by simp))
  have hc : ∀ q, ((w.alloc (.cells #[.string s, .slice al n c, .bool b] 56)).drewN q).cell? ⟨w.heap.size, 0, none⟩ = some (.string s) := fun q => cell_bel (drewN_bel _ q) (cell_of_row _ _ _ _ _ _ (Go.heap_alloc_new w _))
  have HCC := hide hc
  clear hc hs0 hi hs ht
  go_enter Try.func21, Try.ntmps21
  go_wp2_with (go_at_call 38; refine (HC.out _).mono ?_; rintro e w' ⟨rfl, q, hw'⟩; have hcc := HCC.out q; rw [← hw'] at hcc; have HBW := HB0.out q; rw [← hw'] at HBW; have HBW := hide HBW; clear hw' HC HCC HB0)
  go_quiet (fail)
  go_wp2_with fail
  refine bodyPost_ret (results_tmp3 rfl _ _ _) rfl ?_
  exact ⟨by rw [← HD.out]; rfl, HBW.out.trans ((drewN_bel _ _).mono HBW.out.size)⟩
set_option maxHeartbeats 1000000 in
theorem one_num {w : World} (t : ByteArray) (i : Nat) (al : Option Addr) (n c : Nat) (ht : t.size ≤ maxLen) (hi : i ≤ t.size) :
    Calls Try.prog 21 #[.string t, .int .i64 (i : Int), .agg #[.string ⟨#[]⟩, .slice al n c, .bool true]] w fun e w' => e = .returned (.tuple #[.int .i64 ((rdN ((tx t).drop i) 0 0).1 : Nat), .bool (decide (0 < (rdN ((tx t).drop i) 0 0).1)), .int .i64 ((rdN ((tx t).drop i) 0 0).2 : Nat)]) ∧ Below w.heap.size w w' := by
  have HC := hide fun W => number_any (w := W) t i ht hi
  generalize rdN ((tx t).drop i) 0 0 = m at *
  obtain ⟨m, v⟩ := m
  have HB0 : Hid (∀ q, Below w.heap.size w ((w.alloc (.cells #[.string ⟨#[]⟩, .slice al n c, .bool true] 56)).drewN q)) := hide fun q => ((Below.refl _ _).alloc (Nat.le_refl _) _).trans ((drewN_bel _ q).mono (by simp))
  clear hi ht
  go_enter Try.func21, Try.ntmps21
  go_wp2_with (go_at_call 39; refine (HC.out _).mono ?_; rintro e w' ⟨rfl, q, hw'⟩; have HBW := HB0.out q; rw [← hw'] at HBW; have HBW := hide HBW; clear hw' HC HB0)
  refine bodyPost_ret (results_tmp3 rfl _ _ _) rfl ?_
  exact ⟨by simp, HBW.out⟩
def WOn (sh : Int) (who : Option (Nat × Int)) (far : Nat) (e : Ending) : Prop := match who with
  | some (n, x) => e = .returned (.tuple #[.int .i64 (n : Nat), .bool true, .int .i64 (x - sh)])
  | none => e = .returned (.tuple #[.int .i64 (far : Nat), .bool false, .int .i64 0])
set_option maxHeartbeats 2000000 in
theorem one_words {w : World} {v : Value} {ns : Nm} (t : ByteArray) (i : Nat) (sh : Int) (hn : WdL w v ns) (hv : ∀ k, k < ns.length → (ns.getD k default).2 = (k : Int) + sh) (ht : t.size ≤ maxLen) (hi : i ≤ t.size) (hs : ∀ k, k < ns.length → (ns.getD k default).1.size ≤ 1000) :
    Calls Try.prog 21 #[.string t, .int .i64 (i : Int), .agg #[.string ⟨#[]⟩, v, .bool false]] w fun e w' => WOn sh (chWho ns ((tx t).drop i)) (chFar ns ((tx t).drop i) 0) e ∧ Below w.heap.size w w' := by
  obtain ⟨g, cap, rfl, n1, n2, n3⟩ := hn
  unfold maxLen at n2
  have HT := hide ht
  have HI := hide hi
  have HS := hide hs
  have HV := hide hv
  have HNO := hide (chWho_no ns ((tx t).drop i))
  have HAT := hide fun k h1 h2 h3 => chWho_at ns k ((tx t).drop i) h1 h2 h3
  have HFT := hide fun k h1 => chFar_take ns k ((tx t).drop i) 0 h1
  have HFL : Hid (∀ k, chFar (ns.take k) ((tx t).drop i) 0 ≤ t.size) := hide fun k => by
    have h := chFar_le (ns.take k) ((tx t).drop i) 0 (Nat.zero_le _)
    rw [List.length_drop, tx_len] at h
    omega
  have HFA : Hid (chFar (ns.take ns.length) ((tx t).drop i) 0 = chFar ns ((tx t).drop i) 0) := hide (by rw [List.take_length])
  obtain ⟨w1, hw1⟩ : ∃ w1, w.alloc (.cells #[.string ⟨#[]⟩, .slice (some ⟨g, 0, none⟩) ns.length cap, .bool false] 56) = w1 := ⟨_, rfl⟩
  have hb1 : Below w.heap.size w w1 := by rw [← hw1]; exact (Below.refl _ _).alloc (Nat.le_refl _) _
  have hc1 : w1.cell? ⟨w.heap.size, 1, none⟩ = some (.slice (some ⟨g, 0, none⟩) ns.length cap) := by rw [← hw1]; exact cell_of_row _ _ _ _ _ _ (Go.heap_alloc_new w _)
  have HCE : Hid (∀ k, k < ns.length → ∀ W, Below w1.heap.size w1 W → W.cell? ⟨g, k, none⟩ = some (.string (ns.getD k default).1)) := hide fun k hk W hW => cell_bel hW (cell_bel hb1 (n3 k hk))
  have HCB : Hid (∀ W, Below w1.heap.size w1 W → W.cell? ⟨w.heap.size, 1, none⟩ = some (.slice (some ⟨g, 0, none⟩) ns.length cap)) := hide fun W hW => cell_bel hW hc1
  have HB1 := hide hb1
  have HW1 := hide hw1
  clear n3 hb1 hc1 hi ht hs hv hw1
  go_enter Try.func21, Try.ntmps21
  go_wp2_with fail
  rw [HW1.out]
  clear HW1
  generalize hlen : ns.length = n at *
  have HLEN := hide hlen
  clear hlen
  go_loopw [12, 13] (fun z y wr => ∃ k : Nat, k ≤ n ∧ y = .int .i64 (k : Int) ∧ z = .int .i64 (chFar (ns.take k) ((tx t).drop i) 0 : Nat) ∧ Below w1.heap.size w1 wr ∧ Hid (∀ j, j < k → cp ((tx t).drop i) (tx (ns.getD j default).1) ≠ (ns.getD j default).1.size)) (fun _ y _ => n - (intOf y).toNat)
  case atStart => exact ⟨0, Nat.zero_le _, rfl, rfl, Below.refl _ _, hide fun j hj => by omega⟩
  case round =>
    obtain ⟨k, hk, rfl, rfl, hB, H⟩ := hrel
    have c0 := HCB.out wr hB
    have HB := hide hB
    clear hB
    have hfl := HFL.out k
    by_cases hlt : k < n
    · have c1 := HCE.out k hlt wr HB.out
      have hii : 0 ≤ (k : Int) ∧ (k : Int) < (n : Int) := ⟨by omega, by omega⟩
      have hil : (k : Int) < (n : Int) := by omega
      have hsz := HS.out k hlt
      have hvk := HV.out k hlt
      have HA : Hid (cp ((tx t).drop i) (tx (ns.getD k default).1) = (ns.getD k default).1.size → chWho ns ((tx t).drop i) = some ((ns.getD k default).1.size, (ns.getD k default).2)) := hide fun h => HAT.out k hlt H.out h
      have HS2 : Hid (cp ((tx t).drop i) (tx (ns.getD k default).1) ≠ (ns.getD k default).1.size → ∀ j, j < k + 1 → cp ((tx t).drop i) (tx (ns.getD j default).1) ≠ (ns.getD j default).1.size) := hide fun h j hj => by
        by_cases hj' : j < k
        · exact H.out j hj'
        · obtain rfl : j = k := by omega
          exact h
      have HF2 := hide (HFT.out k hlt)
      generalize (ns.getD k default).1 = s at *
      generalize (ns.getD k default).2 = y at *
      have HVK := hide hvk
      generalize chFar (ns.take k) ((tx t).drop i) 0 = far at *
      have HC := hide fun W => common_any t s i W HT.out (by unfold maxLen; omega) HI.out
      have hcl := cp_le_r ((tx t).drop i) (tx s)
      rw [tx_len] at hcl
      generalize cp ((tx t).drop i) (tx s) = m at *
      have HCC : Hid (∀ q, (wr.drewN q).cell? ⟨w.heap.size, 1, none⟩ = some (.slice (some ⟨g, 0, none⟩) n cap) ∧ (wr.drewN q).cell? ⟨g, k, none⟩ = some (.string s) ∧ Below w1.heap.size w1 (wr.drewN q)) := hide fun q => ⟨cell_bel (drewN_bel _ q) c0, cell_bel (drewN_bel _ q) c1, HB.out.trans ((drewN_bel _ q).mono HB.out.size)⟩
      clear H hvk
      by_cases hxy : m = s.size
      · have hxe : ((m : Int) == (s.size : Int)) = true := by simp; omega
        have HW := hide (HA.out hxy)
        have HXY := hide hxy
        clear hxy
        go_wp2_with (go_at_call 38; refine (HC.out _).mono ?_; rintro e w' ⟨rfl, q, hw'⟩; obtain ⟨c2, c3, hb2⟩ := HCC.out q; rw [← hw'] at c2 c3 hb2; have HB2 := hide hb2; clear hw' HC HCC hb2 c0 c1)
        refine bodyPost_ret (results_tmp3 rfl _ _ _) rfl ?_
        refine ⟨?_, HB1.out.trans (HB2.out.mono HB1.out.size)⟩
        rw [HW.out, HVK.out]
        show _ = _
        rw [← HXY.out, show (k : Int) + sh - sh = (k : Int) by omega]
        rfl
      · have hxe : ((m : Int) == (s.size : Int)) = false := by simp; omega
        have HX := hide hxy
        clear hxy
        by_cases hfm : far < m
        · have hfi : (far : Int) < (m : Int) := by omega
          go_wp2_with (go_at_call 38; refine (HC.out _).mono ?_; rintro e w' ⟨rfl, q, hw'⟩; obtain ⟨c2, c3, hb2⟩ := HCC.out q; rw [← hw'] at c2 c3 hb2; have HB2 := hide hb2; clear hw' HC HCC hb2 c0 c1)
          go_roundw
          case rel => exact ⟨k + 1, by omega, by go_num, by rw [HF2.out]; congr 1; omega, HB2.out, hide (HS2.out HX.out)⟩
          case measure => simp [intOf]; omega
        · have hfi : ¬ (far : Int) < (m : Int) := by omega
          go_wp2_with (go_at_call 38; refine (HC.out _).mono ?_; rintro e w' ⟨rfl, q, hw'⟩; obtain ⟨c2, c3, hb2⟩ := HCC.out q; rw [← hw'] at c2 c3 hb2; have HB2 := hide hb2; clear hw' HC HCC hb2 c0 c1)
          go_roundw
          case rel => exact ⟨k + 1, by omega, by go_num, by rw [HF2.out]; congr 1; omega, HB2.out, hide (HS2.out HX.out)⟩
          case measure => simp [intOf]; omega
    · have hnl : ¬ (k : Int) < (n : Int) := by omega
      have hkn : k = n := by omega
      have H2 : Hid (chWho ns ((tx t).drop i) = none) := hide (HNO.out fun j hj => H.out j (by omega))
      clear H
      have HKN := hide hkn
      clear hkn
      go_wp2_with fail
      refine bodyPost_ret (results_tmp3 rfl _ _ _) rfl ?_
      refine ⟨?_, HB1.out.trans (HB.out.mono HB1.out.size)⟩
      rw [H2.out, ← HFA.out, ← HKN.out]
      rfl
end Go.Proofs.Ytdjdcpldofmdjaa
